/- PlayPair of the specification. -/
import Derived.Test.YtjfalfjadleegaaS12r
namespace Go.Proofs.Ytjfalfjadleegaa
open Go.RowKit

theorem ownN_kept {e : TypeId} {k : IntKind} {w w' : World} {base : Nat} {r : Option Nat} {v : Value} {L : List Int} (h : OwnN e k base v L w) (hg : w.grownBy w' r) (hn : v.ownBlock = none ∨ v.ownBlock ≠ r) : OwnN e k base v L w' :=
  World.ownsRow.kept h hg hn
theorem ownN_lt {e : TypeId} {k : IntKind} {w : World} {base : Nat} {v : Value} {L : List Int} (h : OwnN e k base v L w) {j : Nat} (hj : v.ownBlock = some j) : base ≤ j ∧ j < w.heap.size :=
  World.ownsRow.lt h j hj
theorem TB.grown {B : Nat} {v : Value} {t : Int} {w w' : World} {r : Option Nat} (h : TB B v t w) (hg : w.grownBy w' r) (hr : ∀ j, r = some j → j < B) : TB B v t w' := by
  rcases h with h | ⟨h0, g, h1, h2, h3⟩
  · exact .inl h
  · refine .inr ⟨h0, g, h1, h2, ?_⟩
    have hb := hg.block g h3.1 (fun e => by have := hr g e.symm; omega)
    refine ⟨Nat.lt_of_lt_of_le h3.1 hg.size, fun i hi => ?_⟩
    obtain ⟨⟨x, c0, hx⟩, f0⟩ := h3.2 i hi
    exact ⟨⟨x, (World.cell?_of_block (w := w) hb).trans c0, hx⟩, (World.frozen?_of_block (w := w) hb).trans f0⟩
theorem Mut.grown {w w' : World} {b : Nat} {vs : List Value} {r : Option Nat} (h : Mut w b vs) (hg : w.grownBy w' r) (hr : r ≠ some b) : Mut w' b vs := by
  have hb := hg.block b h.1 (fun e => hr e.symm)
  exact ⟨Nat.lt_of_lt_of_le h.1 hg.size, fun i v hv => (World.cell?_of_block (w := w) hb).trans (h.2.1 i v hv), fun i hi => (World.frozen?_of_block (w := w) hb).trans (h.2.2 i hi)⟩
theorem own12_cap {e : TypeId} {base : Nat} {v : Value} {L : List Int} {w : World} (h : OwnN e .i64 base v L w) (h0 : L ≠ []) : ∃ g cap, v = .slice (some ⟨g, 0, none⟩) L.length cap ∧ L.length ≤ cap := by
  rcases h.2 with ⟨rfl, h1⟩ | ⟨g, cap, cur, rfl, hb, hg, hc, _⟩
  · exact absurd (List.eq_nil_of_length_eq_zero h1) h0
  · exact ⟨g, cap, rfl, hc⟩
/-- The cells of a side. -/
abbrev sdc (s : Se) (v : Value) (a : Int) : List Value := [.int .i64 s.st, .int .i64 s.ho, .int .i64 s.le, .int .i64 s.qu, .int .i64 s.up, v, .int .i64 a]
/-- Where a pair stands in the loop. -/
def PqR (e : TypeId) (a b : Int) (f : Nat → Int) (bR b9 b10 base : Nat) (w0 : World) (m : Nat) (wr : World) : Prop :=
  (∀ i, i < m → f i = 0 ∨ f i = 1 ∨ f i = 2) ∧ ∃ vx vy, Mut wr b9 (sdc (ppRun a b f m).x vx a) ∧ Mut wr b10 (sdc (ppRun a b f m).y vy b) ∧ OwnN e .i64 base vx (ppRun a b f m).qx wr ∧ OwnN e .i64 base vy (ppRun a b f m).qy wr ∧ (∀ j, vx.ownBlock = some j → vy.ownBlock ≠ some j) ∧
  Mut wr bR [.int .i64 0, .int .i64 0, .int .i64 0, .int .i64 0, .int .i64 0] ∧ Mut wr (bR + 1) [.int .i64 0, .int .i64 0, .int .i64 0, .int .i64 0, .int .i64 0] ∧ Below w0.heap.size w0 wr ∧ base ≤ wr.heap.size
set_option maxRecDepth 100000 in
set_option maxHeartbeats 12800000 in
theorem s_playPair (a b : Int) (ra : Option Addr) (n rc : Nat) (f : Nat → Int) (w : World) (hn : n ≤ 1048576) (hR : RowInt ra n f w) :
    Calls Try.prog 6 #[.int .i64 a, .int .i64 b, .slice ra n rc] w fun e w' => e = .returned (.tuple #[(pqX a b n f).v, (pqY a b n f).v, .bool (pqB a b n f)]) ∧ Below w.heap.size w w' := by
  have s1 := hide (fun h w hh => s_side1 h w hh)
  have s2 := hide (fun x0 x1 x2 x3 x4 w hG => s_tick x0 x1 x2 x3 x4 w hG)
  have MA := (Mut.zeros5 w 27).alloc (.cells #[.int .i64 0, .int .i64 0, .int .i64 0, .int .i64 0, .int .i64 0] 27)
  have MB : Mut ((w.alloc (.cells #[.int .i64 0, .int .i64 0, .int .i64 0, .int .i64 0, .int .i64 0] 27)).alloc (.cells #[.int .i64 0, .int .i64 0, .int .i64 0, .int .i64 0, .int .i64 0] 27)) (w.heap.size + 1) [.int .i64 0, .int .i64 0, .int .i64 0, .int .i64 0, .int .i64 0] := by
    simpa using Mut.zeros5 (w.alloc (.cells #[.int .i64 0, .int .i64 0, .int .i64 0, .int .i64 0, .int .i64 0] 27)) 27
  have dd : Below w.heap.size w ((w.alloc (.cells #[.int .i64 0, .int .i64 0, .int .i64 0, .int .i64 0, .int .i64 0] 27)).alloc (.cells #[.int .i64 0, .int .i64 0, .int .i64 0, .int .i64 0, .int .i64 0] 27)) := below_box2 (Below.refl _ _)
  by_cases ca : 3 ≤ a ∧ a ≤ 90
  · have ia : inB a 3 90 = true := inB_t ca.1 ca.2
    by_cases cb : 3 ≤ b ∧ b ≤ 90
    · have ib : inB b 3 90 = true := inB_t cb.1 cb.2
      by_cases cn : n ≤ 100
      · have cn' : ¬ (n : Int) > 100 := by omega
        have SA := hide (fun w => s1.out a w ca)
        have SB := hide (fun w => s1.out b w cb)
        go_enter Try.func6, Try.ntmps6
        go_upto_region 3 with (go_at_call 14; refine (s_in _ _ _ _).mono ?_; rintro e w' ⟨rfl, rfl⟩)
        generalize (w.alloc (.cells #[.int .i64 0, .int .i64 0, .int .i64 0, .int .i64 0, .int .i64 0] 27)).alloc (.cells #[.int .i64 0, .int .i64 0, .int .i64 0, .int .i64 0, .int .i64 0] 27) = wz at *
        go_wp2_with fail
        refine (SA.out _).mono ?_
        rintro e w1 ⟨rfl, b1⟩
        replace MA := MA.below b1
        replace MB := MB.below b1
        replace dd := dd.trans (b1.mono dd.size)
        have M9 := Mut.new w1 #[.int .i64 2, .int .i64 a, .int .i64 90, .int .i64 0, .int .i64 0, .slice none 0 0, .int .i64 a] 53
        have bA : Below w1.heap.size w1 (w1.alloc (.cells #[.int .i64 2, .int .i64 a, .int .i64 90, .int .i64 0, .int .i64 0, .slice none 0 0, .int .i64 a] 53)) := below_box (Below.refl _ _)
        have hB9 : w.heap.size + 1 < w1.heap.size := MB.1
        replace MA := MA.below bA
        replace MB := MB.below bA
        replace dd := dd.trans (bA.mono dd.size)
        clear b1 bA
        go_upto_region 4 with fail
        generalize w1.alloc (.cells #[.int .i64 2, .int .i64 a, .int .i64 90, .int .i64 0, .int .i64 0, .slice none 0 0, .int .i64 a] 53) = wA at *
        generalize w1.heap.size = b9 at *
        go_wp2_with fail
        refine (SB.out _).mono ?_
        rintro e w2 ⟨rfl, b2⟩
        replace MA := MA.below b2
        replace MB := MB.below b2
        replace M9 := M9.below b2
        replace dd := dd.trans (b2.mono dd.size)
        have M10 := Mut.new w2 #[.int .i64 2, .int .i64 b, .int .i64 90, .int .i64 0, .int .i64 0, .slice none 0 0, .int .i64 b] 53
        have bB : Below w2.heap.size w2 (w2.alloc (.cells #[.int .i64 2, .int .i64 b, .int .i64 90, .int .i64 0, .int .i64 0, .slice none 0 0, .int .i64 b] 53)) := below_box (Below.refl _ _)
        have h910 : b9 < w2.heap.size := M9.1
        replace MA := MA.below bB
        replace MB := MB.below bB
        replace M9 := M9.below bB
        replace dd := dd.trans (bB.mono dd.size)
        clear b2 bB SA SB s1
        go_upto_region 5 with fail
        generalize w2.alloc (.cells #[.int .i64 2, .int .i64 b, .int .i64 90, .int .i64 0, .int .i64 0, .slice none 0 0, .int .i64 b] 53) = wB at *
        generalize w2.heap.size = b10 at *
        have h10B : b10 < wB.heap.size := M10.1
        have z5 := M9.2.1 5 _ rfl
        have zf5 := M9.2.2 5 (by simp)
        have A0 := fun (o : Obj) k => old1 (show b9 < wB.heap.size by omega) o k
        have A1 := fun (o : Obj) k => old1f (show b9 < wB.heap.size by omega) o k
        have bC : Below wB.heap.size wB (wB.alloc (.cells #[.int .i64 1] 3)) := below_box (Below.refl _ _)
        have oC : Only b9 (wB.alloc (.cells #[.int .i64 1] 3)) ((wB.alloc (.cells #[.int .i64 1] 3)).setCell ⟨b9, 5, none⟩ (.slice (some ⟨wB.heap.size, 0, none⟩) 1 1)) := (Only.refl b9 _).setCell 5 _
        have M9C := (M9.below bC).set 5 (.slice (some ⟨wB.heap.size, 0, none⟩) 1 1)
        simp only [List.set_cons_zero, List.set_cons_succ] at M9C
        have M10C := (M10.below bC).only oC (by omega)
        have MAC := (MA.below bC).only oC (by omega)
        have MBC := (MB.below bC).only oC (by omega)
        have dC : Below w.heap.size w ((wB.alloc (.cells #[.int .i64 1] 3)).setCell ⟨b9, 5, none⟩ (.slice (some ⟨wB.heap.size, 0, none⟩) 1 1)) := below_off12 (dd.trans (bC.mono dd.size)) oC (by omega)
        have ownx : OwnN 3 .i64 wB.heap.size (.slice (some ⟨wB.heap.size, 0, none⟩) 1 1) [1] ((wB.alloc (.cells #[.int .i64 1] 3)).setCell ⟨b9, 5, none⟩ (.slice (some ⟨wB.heap.size, 0, none⟩) 1 1)) := own12_off (ownN_made 3 .i64 wB [1] (by decide)) (by omega) oC
        have hszC : wB.heap.size < ((wB.alloc (.cells #[.int .i64 1] 3)).setCell ⟨b9, 5, none⟩ (.slice (some ⟨wB.heap.size, 0, none⟩) 1 1)).heap.size := by simp
        clear bC oC M9 M10 MA MB dd
        go_upto_region 6 with fail
        clear z5 zf5 A0 A1
        generalize (wB.alloc (.cells #[.int .i64 1] 3)).setCell ⟨b9, 5, none⟩ (.slice (some ⟨wB.heap.size, 0, none⟩) 1 1) = wC at *
        have z5 := M10C.2.1 5 _ rfl
        have zf5 := M10C.2.2 5 (by simp)
        have A0 := fun (o : Obj) k => old1 (show b10 < wC.heap.size by omega) o k
        have A1 := fun (o : Obj) k => old1f (show b10 < wC.heap.size by omega) o k
        have bD : Below wC.heap.size wC (wC.alloc (.cells #[.int .i64 1] 3)) := below_box (Below.refl _ _)
        have oD : Only b10 (wC.alloc (.cells #[.int .i64 1] 3)) ((wC.alloc (.cells #[.int .i64 1] 3)).setCell ⟨b10, 5, none⟩ (.slice (some ⟨wC.heap.size, 0, none⟩) 1 1)) := (Only.refl b10 _).setCell 5 _
        have M10D := (M10C.below bD).set 5 (.slice (some ⟨wC.heap.size, 0, none⟩) 1 1)
        simp only [List.set_cons_zero, List.set_cons_succ] at M10D
        have M9D := (M9C.below bD).only oD (by omega)
        have MAD := (MAC.below bD).only oD (by omega)
        have MBD := (MBC.below bD).only oD (by omega)
        have dD : Below w.heap.size w ((wC.alloc (.cells #[.int .i64 1] 3)).setCell ⟨b10, 5, none⟩ (.slice (some ⟨wC.heap.size, 0, none⟩) 1 1)) := below_off12 (dC.trans (bD.mono dC.size)) oD (by omega)
        have ownxD := own12_off (ownN_below ownx bD) (show b10 < wB.heap.size by omega) oD
        have ownyD : OwnN 3 .i64 wB.heap.size (.slice (some ⟨wC.heap.size, 0, none⟩) 1 1) [1] ((wC.alloc (.cells #[.int .i64 1] 3)).setCell ⟨b10, 5, none⟩ (.slice (some ⟨wC.heap.size, 0, none⟩) 1 1)) := own12_off (ownN_base (ownN_made 3 .i64 wC [1] (by decide)) (by omega)) (by omega) oD
        have hszD : wB.heap.size ≤ ((wC.alloc (.cells #[.int .i64 1] 3)).setCell ⟨b10, 5, none⟩ (.slice (some ⟨wC.heap.size, 0, none⟩) 1 1)).heap.size := by simp; omega
        have hneD : ∀ j, (.slice (some ⟨wB.heap.size, 0, none⟩) 1 1 : Value).ownBlock = some j → (.slice (some ⟨wC.heap.size, 0, none⟩) 1 1 : Value).ownBlock ≠ some j := by
          intro j h1 h2
          simp [Value.ownBlock] at h1 h2
          omega
        have hPD : PqR 3 a b f w.heap.size b9 b10 wB.heap.size w 0 ((wC.alloc (.cells #[.int .i64 1] 3)).setCell ⟨b10, 5, none⟩ (.slice (some ⟨wC.heap.size, 0, none⟩) 1 1)) := ⟨fun i hi => absurd hi (Nat.not_lt_zero _), _, _, M9D, M10D, ownxD, ownyD, hneD, MAD, MBD, dD, hszD⟩
        have hPD' := hide hPD
        clear bD oD M10C M9C MAC MBC dC ownx M10D M9D MAD MBD dD ownxD ownyD hneD hPD hszD hszC
        go_wp2_with fail
        clear z5 zf5 A0 A1
        generalize (wC.alloc (.cells #[.int .i64 1] 3)).setCell ⟨b10, 5, none⟩ (.slice (some ⟨wC.heap.size, 0, none⟩) 1 1) = wD at *
        go_loopw [40] (fun i wr => ∃ m : Nat, m ≤ n ∧ i = .int .i64 m ∧ PqR 3 a b f w.heap.size b9 b10 wB.heap.size w m wr) (fun i _ => n - (intOf i).toNat)
        case atStart => exact ⟨0, Nat.zero_le _, rfl, hPD'.out⟩
        case round =>
          obtain ⟨m, hm, rfl, hf, vx, vy, M9, M10, ox, oy, hne, MA, MB, dr, hbr⟩ := hrel
          have hf' := hide hf
          have hI := ppRun_ok ca cb f m
          have hsu := ppRun_succ a b f m
          clear hf hPD'
          generalize hT : ppRun a b f m = T at *
          obtain ⟨⟨x0, x1, x2, x3, x4⟩, ⟨y0, y1, y2, y3, y4⟩, qx, qy⟩ := T
          obtain ⟨gx, gy, kx, ky, lx, ly⟩ := hI
          dsimp only at *
          have hm1 : (m : Int) ≤ 100 := by omega
          by_cases hlt : m < n
          · have hlt' : (m : Int) < (n : Int) := by omega
            obtain ⟨rb, ro, hra, hrb, fm⟩ := hR m hlt
            subst hra
            replace fm := (dr.cell (p := ⟨rb, ro + m, none⟩) hrb).trans fm
            by_cases k0 : f m = 0
            · rw [show ppStep a b (f m) ⟨⟨x0, x1, x2, x3, x4⟩, ⟨y0, y1, y2, y3, y4⟩, qx, qy⟩ = ppTick ⟨⟨x0, x1, x2, x3, x4⟩, ⟨y0, y1, y2, y3, y4⟩, qx, qy⟩ by unfold ppStep; rw [if_pos k0]] at hsu
              rw [k0] at fm
              have hsu' := hide hsu
              have hf2 : Hid (∀ i, i < m + 1 → f i = 0 ∨ f i = 1 ∨ f i = 2) := fun i hi => by
                by_cases e : i = m
                · subst e; exact .inl k0
                · exact hf'.out i (by omega)
              have tX := hide (fun w => s2.out x0 x1 x2 x3 x4 w gx)
              have tY := hide (fun w => s2.out y0 y1 y2 y3 y4 w gy)
              unfold ppTick at hsu'
              dsimp only at hsu'
              generalize tick ⟨x0, x1, x2, x3, x4⟩ = RX at *
              generalize tick ⟨y0, y1, y2, y3, y4⟩ = RY at *
              obtain ⟨⟨p0, p1, p2, p3, p4⟩, ta⟩ := RX
              obtain ⟨⟨s0, s1, s2', s3, s4⟩, tb⟩ := RY
              dsimp only at hsu'
              have h9B : b9 < wB.heap.size := by omega
              have a0 := M9.2.1 0 _ rfl
              have a1 := M9.2.1 1 _ rfl
              have a2 := M9.2.1 2 _ rfl
              have a3 := M9.2.1 3 _ rfl
              have a4 := M9.2.1 4 _ rfl
              clear hsu hT k0 gx gy hf'
              go_wp2_with fail
              refine (tX.out _).mono ?_
              rintro e r1 ⟨vtX, rfl, TY, br1⟩
              have hr1 := br1.size
              have hwr : wB.heap.size ≤ wr.heap.size := hbr
              have hXY : ∀ j, vx.ownBlock = some j → j < wr.heap.size := fun j hj => (ownN_lt ox hj).2
              have hb9Y : b9 < wr.heap.size := M9.1
              replace M9 := M9.below br1
              replace M10 := M10.below br1
              replace MA := MA.below br1
              replace MB := MB.below br1
              replace ox := ownN_below ox br1
              replace oy := ownN_below oy br1
              replace dr := dr.trans (br1.mono dr.size)
              replace hbr := Nat.le_trans hbr br1.size
              clear br1 a0 a1 a2 a3 a4
              have c0 := M9.2.1 0 _ rfl
              have cf0 := M9.2.2 0 (by simp)
              have c1 := M9.2.1 1 _ rfl
              have cf1 := M9.2.2 1 (by simp)
              have c2 := M9.2.1 2 _ rfl
              have cf2 := M9.2.2 2 (by simp)
              have c3 := M9.2.1 3 _ rfl
              have cf3 := M9.2.2 3 (by simp)
              have c4 := M9.2.1 4 _ rfl
              have cf4 := M9.2.2 4 (by simp)
              have oo : Only b9 r1 (((((r1.setCell ⟨b9, 0, none⟩ (.int .i64 p0)).setCell ⟨b9, 1, none⟩ (.int .i64 p1)).setCell ⟨b9, 2, none⟩ (.int .i64 p2)).setCell ⟨b9, 3, none⟩ (.int .i64 p3)).setCell ⟨b9, 4, none⟩ (.int .i64 p4)) := ((((((Only.refl b9 r1).setCell 0 (.int .i64 p0)).setCell 1 (.int .i64 p1)).setCell 2 (.int .i64 p2)).setCell 3 (.int .i64 p3)).setCell 4 (.int .i64 p4))
              have M9' := (((((M9.set 0 (.int .i64 p0)).set 1 (.int .i64 p1)).set 2 (.int .i64 p2)).set 3 (.int .i64 p3)).set 4 (.int .i64 p4))
              simp only [List.set_cons_zero, List.set_cons_succ] at M9'
              replace M10 := M10.only oo (by omega)
              replace MA := MA.only oo (by omega)
              replace MB := MB.only oo (by omega)
              replace ox := own12_off ox h9B oo
              replace oy := own12_off oy h9B oo
              replace TY := TY.only oo hb9Y
              replace dr := below_off12 dr oo (by omega)
              replace hbr : wB.heap.size ≤ (((((r1.setCell ⟨b9, 0, none⟩ (.int .i64 p0)).setCell ⟨b9, 1, none⟩ (.int .i64 p1)).setCell ⟨b9, 2, none⟩ (.int .i64 p2)).setCell ⟨b9, 3, none⟩ (.int .i64 p3)).setCell ⟨b9, 4, none⟩ (.int .i64 p4)).heap.size := by simpa using hbr
              go_upto_region 15 with fail
              clear c0 c1 c2 c3 c4 cf0 cf1 cf2 cf3 cf4 oo M9
              generalize ((((r1.setCell ⟨b9, 0, none⟩ (.int .i64 p0)).setCell ⟨b9, 1, none⟩ (.int .i64 p1)).setCell ⟨b9, 2, none⟩ (.int .i64 p2)).setCell ⟨b9, 3, none⟩ (.int .i64 p3)).setCell ⟨b9, 4, none⟩ (.int .i64 p4) = G1 at *
              have M9 := M9'
              clear M9'
              have a0 := M10.2.1 0 _ rfl
              have a1 := M10.2.1 1 _ rfl
              have a2 := M10.2.1 2 _ rfl
              have a3 := M10.2.1 3 _ rfl
              have a4 := M10.2.1 4 _ rfl
              go_wp2_with fail
              refine (tY.out _).mono ?_
              rintro e r2 ⟨vtY, rfl, TX, br2⟩
              have hb10X : b10 < G1.heap.size := M10.1
              have hb10Y : b10 < wr.heap.size := by omega
              replace M9 := M9.below br2
              replace M10 := M10.below br2
              replace MA := MA.below br2
              replace MB := MB.below br2
              replace ox := ownN_below ox br2
              replace oy := ownN_below oy br2
              replace TY := TY.below br2
              replace dr := dr.trans (br2.mono dr.size)
              replace hbr := Nat.le_trans hbr br2.size
              clear br2 a0 a1 a2 a3 a4
              have c0 := M10.2.1 0 _ rfl
              have cf0 := M10.2.2 0 (by simp)
              have c1 := M10.2.1 1 _ rfl
              have cf1 := M10.2.2 1 (by simp)
              have c2 := M10.2.1 2 _ rfl
              have cf2 := M10.2.2 2 (by simp)
              have c3 := M10.2.1 3 _ rfl
              have cf3 := M10.2.2 3 (by simp)
              have c4 := M10.2.1 4 _ rfl
              have cf4 := M10.2.2 4 (by simp)
              have oo : Only b10 r2 (((((r2.setCell ⟨b10, 0, none⟩ (.int .i64 s0)).setCell ⟨b10, 1, none⟩ (.int .i64 s1)).setCell ⟨b10, 2, none⟩ (.int .i64 s2')).setCell ⟨b10, 3, none⟩ (.int .i64 s3)).setCell ⟨b10, 4, none⟩ (.int .i64 s4)) := ((((((Only.refl b10 r2).setCell 0 (.int .i64 s0)).setCell 1 (.int .i64 s1)).setCell 2 (.int .i64 s2')).setCell 3 (.int .i64 s3)).setCell 4 (.int .i64 s4))
              have M10' := (((((M10.set 0 (.int .i64 s0)).set 1 (.int .i64 s1)).set 2 (.int .i64 s2')).set 3 (.int .i64 s3)).set 4 (.int .i64 s4))
              simp only [List.set_cons_zero, List.set_cons_succ] at M10'
              replace M9 := M9.only oo (by omega)
              replace MA := MA.only oo (by omega)
              replace MB := MB.only oo (by omega)
              replace ox := own12_off ox h10B oo
              replace oy := own12_off oy h10B oo
              replace TY := TY.only oo hb10Y
              replace TX := TX.only oo hb10X
              replace dr := below_off12 dr oo (by omega)
              replace hbr : wB.heap.size ≤ (((((r2.setCell ⟨b10, 0, none⟩ (.int .i64 s0)).setCell ⟨b10, 1, none⟩ (.int .i64 s1)).setCell ⟨b10, 2, none⟩ (.int .i64 s2')).setCell ⟨b10, 3, none⟩ (.int .i64 s3)).setCell ⟨b10, 4, none⟩ (.int .i64 s4)).heap.size := by simpa using hbr
              go_upto_region 20 with fail
              clear c0 c1 c2 c3 c4 cf0 cf1 cf2 cf3 cf4 oo M10
              generalize ((((r2.setCell ⟨b10, 0, none⟩ (.int .i64 s0)).setCell ⟨b10, 1, none⟩ (.int .i64 s1)).setCell ⟨b10, 2, none⟩ (.int .i64 s2')).setCell ⟨b10, 3, none⟩ (.int .i64 s3)).setCell ⟨b10, 4, none⟩ (.int .i64 s4) = G2 at *
              have M10 := M10'
              clear M10'
              obtain ⟨xa, xc, rfl, sX⟩ := TX.src
              have sX' := hide sX
              have z5 := M9.2.1 5 _ rfl
              have hlx : Hid (qx.length + (tl12 tb).length ≤ 8589934593) := by show _ ≤ _; have := tl12_len (tb); omega
              have hly : Hid (qy.length + (tl12 ta).length ≤ 8589934593) := by show _ ≤ _; have := tl12_len (ta); omega
              have hM9 := hide M9
              clear sX TX M9
              go_upto_region 21 with (first | (at_builtin; refine wpList_appN numInt rfl _ _ rfl wB.heap.size vx qx rfl ox _ (tl12 tb) _ _ rfl rfl sX'.out hlx.out (by decide) hbr ?_; intro v6 w6 own6 b6 g6 h6; obtain ⟨Lx, hLx⟩ : ∃ Lx, Lx = qx ++ tl12 tb := ⟨_, rfl⟩; rw [← hLx] at own6; have hLx' := hide hLx; clear hLx; obtain ⟨va, vc, rfl, _⟩ := ownN_row own6; have M96 := hM9.out.base h9B b6; have m5 := M96.2.1 5 _ rfl; have mf5 := M96.2.2 5 (by simp)))
              have o6 : Only b9 w6 (w6.setCell ⟨b9, 5, none⟩ (.slice va Lx.length vc)) := (Only.refl b9 w6).setCell 5 _
              have M9g := M96.set 5 (.slice va Lx.length vc)
              simp only [List.set_cons_zero, List.set_cons_succ] at M9g
              have M10g := (M10.base h10B b6).only o6 (by omega)
              have hkY : vy.ownBlock = none ∨ vy.ownBlock ≠ vx.ownBlock := by
                cases hv : vy.ownBlock with
                | none => exact .inl rfl
                | some j => exact .inr (fun e => hne j e.symm hv)
              have oxg := own12_off own6 h9B o6
              have oyg := own12_off (ownN_kept oy g6 hkY) h9B o6
              have TYg := (TY.grown g6 hXY).only o6 hb9Y
              have MAg := (MA.base (by omega) b6).only o6 (by omega)
              have MBg := (MB.base (by omega) b6).only o6 (by omega)
              have dg := below_off12 (dr.trans (b6.mono (by omega))) o6 (by omega)
              have hbg : wB.heap.size ≤ (w6.setCell ⟨b9, 5, none⟩ (.slice va Lx.length vc)).heap.size := by simpa using Nat.le_trans hbr b6.size
              have hxy : ∀ j, (.slice va Lx.length vc : Value).ownBlock = some j → vy.ownBlock ≠ some j := by
                intro j h1 h2
                rcases h6 with e | e
                · exact hne j (by rw [← e]; exact h1) h2
                · rw [e] at h1
                  have := (ownN_lt oy h2).2
                  simp only [Option.some.injEq] at h1
                  omega
              clear m5 mf5 M96 M10 own6 ox oy TY MA MB dr hbr b6 g6 h6 o6 hkY hM9 hlx sX' z5
              generalize w6.setCell ⟨b9, 5, none⟩ (.slice va Lx.length vc) = GG at *
              obtain ⟨ya, yc, rfl, sY⟩ := TYg.src
              have sY' := hide sY
              have z5 := M10g.2.1 5 _ rfl
              have hM10 := hide M10g
              clear sY TYg M10g
              go_wp2_with (first | (at_builtin; refine wpList_appN numInt rfl _ _ rfl wB.heap.size vy qy rfl oyg _ (tl12 ta) _ _ rfl rfl sY'.out hly.out (by decide) hbg ?_; intro v8 w8 own8 b8 g8 h8; obtain ⟨Ly, hLy⟩ : ∃ Ly, Ly = qy ++ tl12 ta := ⟨_, rfl⟩; rw [← hLy] at own8; have hLy' := hide hLy; clear hLy; obtain ⟨vb, vd, rfl, _⟩ := ownN_row own8; have M18 := hM10.out.base h10B b8; have m5 := M18.2.1 5 _ rfl; have mf5 := M18.2.2 5 (by simp)))
              have o8 : Only b10 w8 (w8.setCell ⟨b10, 5, none⟩ (.slice vb Ly.length vd)) := (Only.refl b10 w8).setCell 5 _
              have M10h := M18.set 5 (.slice vb Ly.length vd)
              simp only [List.set_cons_zero, List.set_cons_succ] at M10h
              have M9h := (M9g.base h9B b8).only o8 (by omega)
              have hkX : (.slice va Lx.length vc : Value).ownBlock = none ∨ (.slice va Lx.length vc : Value).ownBlock ≠ vy.ownBlock := by
                cases hv : (.slice va Lx.length vc : Value).ownBlock with
                | none => exact .inl rfl
                | some j => exact .inr (fun e => hxy j hv e.symm)
              have oxh := own12_off (ownN_kept oxg g8 hkX) h10B o8
              have oyh := own12_off own8 h10B o8
              have MAh := (MAg.base (by omega) b8).only o8 (by omega)
              have MBh := (MBg.base (by omega) b8).only o8 (by omega)
              have dh := below_off12 (dg.trans (b8.mono (by omega))) o8 (by omega)
              have hbh : wB.heap.size ≤ (w8.setCell ⟨b10, 5, none⟩ (.slice vb Ly.length vd)).heap.size := by simpa using Nat.le_trans hbg b8.size
              have hnh : ∀ j, (.slice va Lx.length vc : Value).ownBlock = some j → (.slice vb Ly.length vd : Value).ownBlock ≠ some j := by
                intro j h1 h2
                rcases h8 with e | e
                · exact hxy j h1 (by rw [← e]; exact h2)
                · rw [e] at h2
                  have := (ownN_lt oxg h1).2
                  simp only [Option.some.injEq] at h2
                  omega
              refine ⟨⟨m + 1, by omega, by go_num, ?_⟩, by simp [intOf]; omega⟩
              unfold PqR
              rw [hsu'.out, ← hLx'.out, ← hLy'.out]
              exact ⟨hf2.out, _, _, M9h, M10h, oxh, oyh, hnh, MAh, MBh, dh, hbh⟩
            · have k0' : (f m == 0) = false := by simp [k0]
              by_cases k1 : f m = 1
              · rw [show ppStep a b (f m) ⟨⟨x0, x1, x2, x3, x4⟩, ⟨y0, y1, y2, y3, y4⟩, qx, qy⟩ = ppX b ⟨⟨x0, x1, x2, x3, x4⟩, ⟨y0, y1, y2, y3, y4⟩, qx, qy⟩ by unfold ppStep; rw [if_neg k0, if_pos k1]] at hsu
                rw [k1] at fm
                have hf2 : Hid (∀ i, i < m + 1 → f i = 0 ∨ f i = 1 ∨ f i = 2) := fun i hi => by
                  by_cases e : i = m
                  · subst e; exact .inr (.inl k1)
                  · exact hf'.out i (by omega)
                cases qx with
                | nil =>
                  have hsu' : Hid (ppRun a b f (m + 1) = ⟨⟨x0, x1, x2, x3, x4⟩, ⟨y0, y1, y2, y3, y4⟩, [] ++ tl12 0, qy ++ tl12 0⟩) := by rw [Hid, hsu]; simp [ppX, tl12]
                  obtain ⟨qa, qc, rfl, _⟩ := ownN_row ox
                  replace hne : ∀ j, (.slice qa 0 qc : Value).ownBlock = some j → vy.ownBlock ≠ some j := hne
                  have h9B : b9 < wB.heap.size := by omega
                  have a0 := M9.2.1 0 _ rfl
                  have a1 := M9.2.1 1 _ rfl
                  have a2 := M9.2.1 2 _ rfl
                  have a3 := M9.2.1 3 _ rfl
                  have a4 := M9.2.1 4 _ rfl
                  have a5 := M9.2.1 5 _ rfl
                  have a6 := M9.2.1 6 _ rfl
                  have C0 := hide (fun w => s_come0 x0 x1 x2 x3 x4 qa qc a b w)
                  clear hsu hT gx gy hf' k0
                  go_wp2_with fail
                  refine (C0.out _).mono ?_
                  rintro e r1 ⟨rfl, br1⟩
                  have hwr : wB.heap.size ≤ wr.heap.size := hbr
                  replace M9 := M9.below br1
                  replace M10 := M10.below br1
                  replace MA := MA.below br1
                  replace MB := MB.below br1
                  replace dr := dr.trans (br1.mono dr.size)
                  replace hbr := Nat.le_trans hbr br1.size
                  replace ox := ownN_below ox br1
                  replace oy := ownN_below oy br1
                  clear br1 a0 a1 a2 a3 a4 a5 a6
                  have c0 := M9.2.1 0 _ rfl
                  have cf0 := M9.2.2 0 (by simp)
                  have c1 := M9.2.1 1 _ rfl
                  have cf1 := M9.2.2 1 (by simp)
                  have c2 := M9.2.1 2 _ rfl
                  have cf2 := M9.2.2 2 (by simp)
                  have c3 := M9.2.1 3 _ rfl
                  have cf3 := M9.2.2 3 (by simp)
                  have c4 := M9.2.1 4 _ rfl
                  have cf4 := M9.2.2 4 (by simp)
                  have c5 := M9.2.1 5 _ rfl
                  have cf5 := M9.2.2 5 (by simp)
                  have c6 := M9.2.1 6 _ rfl
                  have cf6 := M9.2.2 6 (by simp)
                  have oo : Only b9 r1 ((((((((r1.setCell ⟨b9, 0, none⟩ (.int .i64 x0)).setCell ⟨b9, 1, none⟩ (.int .i64 x1)).setCell ⟨b9, 2, none⟩ (.int .i64 x2)).setCell ⟨b9, 3, none⟩ (.int .i64 x3)).setCell ⟨b9, 4, none⟩ (.int .i64 x4)).setCell ⟨b9, 5, none⟩ (.slice qa 0 qc)).setCell ⟨b9, 6, none⟩ (.int .i64 a))) := ((((((((Only.refl b9 r1).setCell 0 (.int .i64 x0)).setCell 1 (.int .i64 x1)).setCell 2 (.int .i64 x2)).setCell 3 (.int .i64 x3)).setCell 4 (.int .i64 x4)).setCell 5 (.slice qa 0 qc)).setCell 6 (.int .i64 a))
                  have MN := (((((((M9.set 0 (.int .i64 x0)).set 1 (.int .i64 x1)).set 2 (.int .i64 x2)).set 3 (.int .i64 x3)).set 4 (.int .i64 x4)).set 5 (.slice qa 0 qc)).set 6 (.int .i64 a))
                  simp only [List.set_cons_zero, List.set_cons_succ] at MN
                  replace M10 := M10.only oo (by omega)
                  replace MA := MA.only oo (by omega)
                  replace MB := MB.only oo (by omega)
                  replace ox := own12_off ox h9B oo
                  replace oy := own12_off oy h9B oo
                  replace dr := below_off12 dr oo (by omega)
                  replace hbr : wB.heap.size ≤ ((((((((r1.setCell ⟨b9, 0, none⟩ (.int .i64 x0)).setCell ⟨b9, 1, none⟩ (.int .i64 x1)).setCell ⟨b9, 2, none⟩ (.int .i64 x2)).setCell ⟨b9, 3, none⟩ (.int .i64 x3)).setCell ⟨b9, 4, none⟩ (.int .i64 x4)).setCell ⟨b9, 5, none⟩ (.slice qa 0 qc)).setCell ⟨b9, 6, none⟩ (.int .i64 a))).heap.size := by simpa using hbr
                  go_upto_region 20 with fail
                  clear c0 c1 c2 c3 c4 c5 c6 cf0 cf1 cf2 cf3 cf4 cf5 cf6 oo M9
                  generalize ((((((r1.setCell ⟨b9, 0, none⟩ (.int .i64 x0)).setCell ⟨b9, 1, none⟩ (.int .i64 x1)).setCell ⟨b9, 2, none⟩ (.int .i64 x2)).setCell ⟨b9, 3, none⟩ (.int .i64 x3)).setCell ⟨b9, 4, none⟩ (.int .i64 x4)).setCell ⟨b9, 5, none⟩ (.slice qa 0 qc)).setCell ⟨b9, 6, none⟩ (.int .i64 a) = G2 at *
                  have M9 := MN
                  clear MN
                  have TX := TB.nil G2.heap.size G2
                  have TY := TB.nil G2.heap.size G2
                  have hXY : ∀ j, (.slice qa 0 qc : Value).ownBlock = some j → j < G2.heap.size := fun j hj => (ownN_lt ox hj).2
                  have hb9Y : b9 < G2.heap.size := M9.1
                  have sX : SrcN .i64 none (tl12 0) 0 G2 := ⟨fun i hi => absurd hi (by simp [tl12]), .inl ⟨rfl, rfl, rfl⟩⟩
                  have sX' := hide sX
                  have z5 := M9.2.1 5 _ rfl
                  have hlx : Hid (([] : List Int).length + (tl12 0).length ≤ 8589934593) := by show _ ≤ _; have := tl12_len (0); omega
                  have hly : Hid (qy.length + (tl12 0).length ≤ 8589934593) := by show _ ≤ _; have := tl12_len (0); omega
                  have hM9 := hide M9
                  clear sX TX M9
                  go_upto_region 21 with (first | (at_builtin; refine wpList_appN numInt rfl _ _ rfl wB.heap.size (.slice qa 0 qc : Value) ([] : List Int) rfl ox _ (tl12 0) _ _ rfl rfl sX'.out hlx.out (by decide) hbr ?_; intro v6 w6 own6 b6 g6 h6; obtain ⟨Lx, hLx⟩ : ∃ Lx, Lx = ([] : List Int) ++ tl12 0 := ⟨_, rfl⟩; rw [← hLx] at own6; have hLx' := hide hLx; clear hLx; obtain ⟨va, vc, rfl, _⟩ := ownN_row own6; have M96 := hM9.out.base h9B b6; have m5 := M96.2.1 5 _ rfl; have mf5 := M96.2.2 5 (by simp)))
                  have o6 : Only b9 w6 (w6.setCell ⟨b9, 5, none⟩ (.slice va Lx.length vc)) := (Only.refl b9 w6).setCell 5 _
                  have M9g := M96.set 5 (.slice va Lx.length vc)
                  simp only [List.set_cons_zero, List.set_cons_succ] at M9g
                  have M10g := (M10.base h10B b6).only o6 (by omega)
                  have hkY : vy.ownBlock = none ∨ vy.ownBlock ≠ (.slice qa 0 qc : Value).ownBlock := by
                    cases hv : vy.ownBlock with
                    | none => exact .inl rfl
                    | some j => exact .inr (fun e => hne j e.symm hv)
                  have oxg := own12_off own6 h9B o6
                  have oyg := own12_off (ownN_kept oy g6 hkY) h9B o6
                  have TYg := (TY.grown g6 hXY).only o6 hb9Y
                  have MAg := (MA.base (by omega) b6).only o6 (by omega)
                  have MBg := (MB.base (by omega) b6).only o6 (by omega)
                  have dg := below_off12 (dr.trans (b6.mono (by omega))) o6 (by omega)
                  have hbg : wB.heap.size ≤ (w6.setCell ⟨b9, 5, none⟩ (.slice va Lx.length vc)).heap.size := by simpa using Nat.le_trans hbr b6.size
                  have hxy : ∀ j, (.slice va Lx.length vc : Value).ownBlock = some j → vy.ownBlock ≠ some j := by
                    intro j h1 h2
                    rcases h6 with e | e
                    · exact hne j (by rw [← e]; exact h1) h2
                    · rw [e] at h1
                      have := (ownN_lt oy h2).2
                      simp only [Option.some.injEq] at h1
                      omega
                  clear m5 mf5 M96 M10 own6 ox oy TY MA MB dr hbr b6 g6 h6 o6 hkY hM9 hlx sX' z5
                  generalize w6.setCell ⟨b9, 5, none⟩ (.slice va Lx.length vc) = GG at *
                  have sY : SrcN .i64 none (tl12 0) 0 GG := ⟨fun i hi => absurd hi (by simp [tl12]), .inl ⟨rfl, rfl, rfl⟩⟩
                  have sY' := hide sY
                  have z5 := M10g.2.1 5 _ rfl
                  have hM10 := hide M10g
                  clear sY TYg M10g
                  go_wp2_with (first | (at_builtin; refine wpList_appN numInt rfl _ _ rfl wB.heap.size vy qy rfl oyg _ (tl12 0) _ _ rfl rfl sY'.out hly.out (by decide) hbg ?_; intro v8 w8 own8 b8 g8 h8; obtain ⟨Ly, hLy⟩ : ∃ Ly, Ly = qy ++ tl12 0 := ⟨_, rfl⟩; rw [← hLy] at own8; have hLy' := hide hLy; clear hLy; obtain ⟨vb, vd, rfl, _⟩ := ownN_row own8; have M18 := hM10.out.base h10B b8; have m5 := M18.2.1 5 _ rfl; have mf5 := M18.2.2 5 (by simp)))
                  have o8 : Only b10 w8 (w8.setCell ⟨b10, 5, none⟩ (.slice vb Ly.length vd)) := (Only.refl b10 w8).setCell 5 _
                  have M10h := M18.set 5 (.slice vb Ly.length vd)
                  simp only [List.set_cons_zero, List.set_cons_succ] at M10h
                  have M9h := (M9g.base h9B b8).only o8 (by omega)
                  have hkX : (.slice va Lx.length vc : Value).ownBlock = none ∨ (.slice va Lx.length vc : Value).ownBlock ≠ vy.ownBlock := by
                    cases hv : (.slice va Lx.length vc : Value).ownBlock with
                    | none => exact .inl rfl
                    | some j => exact .inr (fun e => hxy j hv e.symm)
                  have oxh := own12_off (ownN_kept oxg g8 hkX) h10B o8
                  have oyh := own12_off own8 h10B o8
                  have MAh := (MAg.base (by omega) b8).only o8 (by omega)
                  have MBh := (MBg.base (by omega) b8).only o8 (by omega)
                  have dh := below_off12 (dg.trans (b8.mono (by omega))) o8 (by omega)
                  have hbh : wB.heap.size ≤ (w8.setCell ⟨b10, 5, none⟩ (.slice vb Ly.length vd)).heap.size := by simpa using Nat.le_trans hbg b8.size
                  have hnh : ∀ j, (.slice va Lx.length vc : Value).ownBlock = some j → (.slice vb Ly.length vd : Value).ownBlock ≠ some j := by
                    intro j h1 h2
                    rcases h8 with e | e
                    · exact hxy j h1 (by rw [← e]; exact h2)
                    · rw [e] at h2
                      have := (ownN_lt oxg h1).2
                      simp only [Option.some.injEq] at h2
                      omega
                  refine ⟨⟨m + 1, by omega, by go_num, ?_⟩, by simp [intOf]; omega⟩
                  unfold PqR
                  rw [hsu'.out, ← hLx'.out, ← hLy'.out]
                  exact ⟨hf2.out, _, _, M9h, M10h, oxh, oyh, hnh, MAh, MBh, dh, hbh⟩
                | cons z q' =>
                  have h9B : b9 < wB.heap.size := by omega
                  obtain ⟨qg, qc, hvq, hqc⟩ := own12_cap ox (by simp)
                  have hRN : RowN .i64 (some ⟨qg, 0, none⟩) (z :: q') wr := by
                    obtain ⟨a', c', e', hr, _⟩ := ownN_row ox
                    rw [hvq] at e'
                    simp only [Value.slice.injEq] at e'
                    rw [e'.1]
                    exact hr
                  have C1 := hide (s_come x0 x1 x2 x3 x4 qg 0 z q' qc a b wr (kx z (by simp)) gx (by simp only [List.length_cons] at lx; omega) (by simpa using hqc) hRN)
                  have hsu2 := hide hsu
                  unfold ppX at hsu2
                  dsimp only at hsu2
                  generalize stp ⟨x0, x1, x2, x3, x4⟩ (evK z) (evN z b) = RR at *
                  obtain ⟨⟨p0, p1, p2, p3, p4⟩, tt⟩ := RR
                  dsimp only at hsu2
                  have hsu' : Hid (ppRun a b f (m + 1) = ⟨⟨p0, p1, p2, p3, p4⟩, ⟨y0, y1, y2, y3, y4⟩, q' ++ tl12 0, qy ++ tl12 tt⟩) := by rw [Hid, hsu2.out]; simp [tl12]
                  subst hvq
                  simp only [List.length_cons] at *
                  have a0 := M9.2.1 0 _ rfl
                  have a1 := M9.2.1 1 _ rfl
                  have a2 := M9.2.1 2 _ rfl
                  have a3 := M9.2.1 3 _ rfl
                  have a4 := M9.2.1 4 _ rfl
                  have a5 := M9.2.1 5 _ rfl
                  have a6 := M9.2.1 6 _ rfl
                  clear hsu hsu2 hT gx gy hf' k0 hRN
                  go_wp2_with fail
                  refine C1.out.mono ?_
                  rintro e r1 ⟨vn, vt, BB, rfl, on, hBB, hoB, TT_, br1⟩
                  obtain ⟨na, nc, rfl, _⟩ := ownN_row on
                  have hwr : wB.heap.size ≤ wr.heap.size := hbr
                  have hne2 : ∀ j, (.slice na q'.length nc : Value).ownBlock = some j → vy.ownBlock ≠ some j := fun j h1 h2 => by
                    have := (ownN_lt on h1).1
                    have := (ownN_lt oy h2).2
                    omega
                  replace M9 := M9.below br1
                  replace M10 := M10.below br1
                  replace MA := MA.below br1
                  replace MB := MB.below br1
                  replace dr := dr.trans (br1.mono dr.size)
                  replace hbr := Nat.le_trans hbr br1.size
                  replace oy := ownN_below oy br1
                  have ox := ownN_base on hwr
                  have hoB' := hide hoB
                  clear br1 a0 a1 a2 a3 a4 a5 a6 hne on hoB
                  have c0 := M9.2.1 0 _ rfl
                  have cf0 := M9.2.2 0 (by simp)
                  have c1 := M9.2.1 1 _ rfl
                  have cf1 := M9.2.2 1 (by simp)
                  have c2 := M9.2.1 2 _ rfl
                  have cf2 := M9.2.2 2 (by simp)
                  have c3 := M9.2.1 3 _ rfl
                  have cf3 := M9.2.2 3 (by simp)
                  have c4 := M9.2.1 4 _ rfl
                  have cf4 := M9.2.2 4 (by simp)
                  have c5 := M9.2.1 5 _ rfl
                  have cf5 := M9.2.2 5 (by simp)
                  have c6 := M9.2.1 6 _ rfl
                  have cf6 := M9.2.2 6 (by simp)
                  have oo : Only b9 r1 ((((((((r1.setCell ⟨b9, 0, none⟩ (.int .i64 p0)).setCell ⟨b9, 1, none⟩ (.int .i64 p1)).setCell ⟨b9, 2, none⟩ (.int .i64 p2)).setCell ⟨b9, 3, none⟩ (.int .i64 p3)).setCell ⟨b9, 4, none⟩ (.int .i64 p4)).setCell ⟨b9, 5, none⟩ (.slice na q'.length nc)).setCell ⟨b9, 6, none⟩ (.int .i64 a))) := ((((((((Only.refl b9 r1).setCell 0 (.int .i64 p0)).setCell 1 (.int .i64 p1)).setCell 2 (.int .i64 p2)).setCell 3 (.int .i64 p3)).setCell 4 (.int .i64 p4)).setCell 5 (.slice na q'.length nc)).setCell 6 (.int .i64 a))
                  have MN := (((((((M9.set 0 (.int .i64 p0)).set 1 (.int .i64 p1)).set 2 (.int .i64 p2)).set 3 (.int .i64 p3)).set 4 (.int .i64 p4)).set 5 (.slice na q'.length nc)).set 6 (.int .i64 a))
                  simp only [List.set_cons_zero, List.set_cons_succ] at MN
                  replace M10 := M10.only oo (by omega)
                  replace MA := MA.only oo (by omega)
                  replace MB := MB.only oo (by omega)
                  replace ox := own12_off ox h9B oo
                  replace oy := own12_off oy h9B oo
                  replace TT_ := TT_.only oo (by omega)
                  replace dr := below_off12 dr oo (by omega)
                  replace hbr : wB.heap.size ≤ ((((((((r1.setCell ⟨b9, 0, none⟩ (.int .i64 p0)).setCell ⟨b9, 1, none⟩ (.int .i64 p1)).setCell ⟨b9, 2, none⟩ (.int .i64 p2)).setCell ⟨b9, 3, none⟩ (.int .i64 p3)).setCell ⟨b9, 4, none⟩ (.int .i64 p4)).setCell ⟨b9, 5, none⟩ (.slice na q'.length nc)).setCell ⟨b9, 6, none⟩ (.int .i64 a))).heap.size := by simpa using hbr
                  go_upto_region 20 with fail
                  clear c0 c1 c2 c3 c4 c5 c6 cf0 cf1 cf2 cf3 cf4 cf5 cf6 oo M9
                  generalize ((((((r1.setCell ⟨b9, 0, none⟩ (.int .i64 p0)).setCell ⟨b9, 1, none⟩ (.int .i64 p1)).setCell ⟨b9, 2, none⟩ (.int .i64 p2)).setCell ⟨b9, 3, none⟩ (.int .i64 p3)).setCell ⟨b9, 4, none⟩ (.int .i64 p4)).setCell ⟨b9, 5, none⟩ (.slice na q'.length nc)).setCell ⟨b9, 6, none⟩ (.int .i64 a) = G2 at *
                  have M9 := MN
                  clear MN
                  have TY := TT_
                  have TX := TB.nil G2.heap.size G2
                  have hne : ∀ j, (.slice na q'.length nc : Value).ownBlock = some j → vy.ownBlock ≠ some j := hne2
                  have hXY : ∀ j, (.slice na q'.length nc : Value).ownBlock = some j → j < BB := hoB'.out
                  have hb9Y : b9 < BB := by omega
                  clear TT_
                  have sX : SrcN .i64 none (tl12 0) 0 G2 := ⟨fun i hi => absurd hi (by simp [tl12]), .inl ⟨rfl, rfl, rfl⟩⟩
                  have sX' := hide sX
                  have z5 := M9.2.1 5 _ rfl
                  have hlx : Hid (q'.length + (tl12 0).length ≤ 8589934593) := by show _ ≤ _; have := tl12_len (0); omega
                  have hly : Hid (qy.length + (tl12 tt).length ≤ 8589934593) := by show _ ≤ _; have := tl12_len (tt); omega
                  have hM9 := hide M9
                  clear sX TX M9
                  go_upto_region 21 with (first | (at_builtin; refine wpList_appN numInt rfl _ _ rfl wB.heap.size (.slice na q'.length nc : Value) q' rfl ox _ (tl12 0) _ _ rfl rfl sX'.out hlx.out (by decide) hbr ?_; intro v6 w6 own6 b6 g6 h6; obtain ⟨Lx, hLx⟩ : ∃ Lx, Lx = q' ++ tl12 0 := ⟨_, rfl⟩; rw [← hLx] at own6; have hLx' := hide hLx; clear hLx; obtain ⟨va, vc, rfl, _⟩ := ownN_row own6; have M96 := hM9.out.base h9B b6; have m5 := M96.2.1 5 _ rfl; have mf5 := M96.2.2 5 (by simp)))
                  have o6 : Only b9 w6 (w6.setCell ⟨b9, 5, none⟩ (.slice va Lx.length vc)) := (Only.refl b9 w6).setCell 5 _
                  have M9g := M96.set 5 (.slice va Lx.length vc)
                  simp only [List.set_cons_zero, List.set_cons_succ] at M9g
                  have M10g := (M10.base h10B b6).only o6 (by omega)
                  have hkY : vy.ownBlock = none ∨ vy.ownBlock ≠ (.slice na q'.length nc : Value).ownBlock := by
                    cases hv : vy.ownBlock with
                    | none => exact .inl rfl
                    | some j => exact .inr (fun e => hne j e.symm hv)
                  have oxg := own12_off own6 h9B o6
                  have oyg := own12_off (ownN_kept oy g6 hkY) h9B o6
                  have TYg := (TY.grown g6 hXY).only o6 hb9Y
                  have MAg := (MA.base (by omega) b6).only o6 (by omega)
                  have MBg := (MB.base (by omega) b6).only o6 (by omega)
                  have dg := below_off12 (dr.trans (b6.mono (by omega))) o6 (by omega)
                  have hbg : wB.heap.size ≤ (w6.setCell ⟨b9, 5, none⟩ (.slice va Lx.length vc)).heap.size := by simpa using Nat.le_trans hbr b6.size
                  have hxy : ∀ j, (.slice va Lx.length vc : Value).ownBlock = some j → vy.ownBlock ≠ some j := by
                    intro j h1 h2
                    rcases h6 with e | e
                    · exact hne j (by rw [← e]; exact h1) h2
                    · rw [e] at h1
                      have := (ownN_lt oy h2).2
                      simp only [Option.some.injEq] at h1
                      omega
                  clear m5 mf5 M96 M10 own6 ox oy TY MA MB dr hbr b6 g6 h6 o6 hkY hM9 hlx sX' z5
                  generalize w6.setCell ⟨b9, 5, none⟩ (.slice va Lx.length vc) = GG at *
                  obtain ⟨ya, yc, rfl, sY⟩ := TYg.src
                  have sY' := hide sY
                  have z5 := M10g.2.1 5 _ rfl
                  have hM10 := hide M10g
                  clear sY TYg M10g
                  go_wp2_with (first | (at_builtin; refine wpList_appN numInt rfl _ _ rfl wB.heap.size vy qy rfl oyg _ (tl12 tt) _ _ rfl rfl sY'.out hly.out (by decide) hbg ?_; intro v8 w8 own8 b8 g8 h8; obtain ⟨Ly, hLy⟩ : ∃ Ly, Ly = qy ++ tl12 tt := ⟨_, rfl⟩; rw [← hLy] at own8; have hLy' := hide hLy; clear hLy; obtain ⟨vb, vd, rfl, _⟩ := ownN_row own8; have M18 := hM10.out.base h10B b8; have m5 := M18.2.1 5 _ rfl; have mf5 := M18.2.2 5 (by simp)))
                  have o8 : Only b10 w8 (w8.setCell ⟨b10, 5, none⟩ (.slice vb Ly.length vd)) := (Only.refl b10 w8).setCell 5 _
                  have M10h := M18.set 5 (.slice vb Ly.length vd)
                  simp only [List.set_cons_zero, List.set_cons_succ] at M10h
                  have M9h := (M9g.base h9B b8).only o8 (by omega)
                  have hkX : (.slice va Lx.length vc : Value).ownBlock = none ∨ (.slice va Lx.length vc : Value).ownBlock ≠ vy.ownBlock := by
                    cases hv : (.slice va Lx.length vc : Value).ownBlock with
                    | none => exact .inl rfl
                    | some j => exact .inr (fun e => hxy j hv e.symm)
                  have oxh := own12_off (ownN_kept oxg g8 hkX) h10B o8
                  have oyh := own12_off own8 h10B o8
                  have MAh := (MAg.base (by omega) b8).only o8 (by omega)
                  have MBh := (MBg.base (by omega) b8).only o8 (by omega)
                  have dh := below_off12 (dg.trans (b8.mono (by omega))) o8 (by omega)
                  have hbh : wB.heap.size ≤ (w8.setCell ⟨b10, 5, none⟩ (.slice vb Ly.length vd)).heap.size := by simpa using Nat.le_trans hbg b8.size
                  have hnh : ∀ j, (.slice va Lx.length vc : Value).ownBlock = some j → (.slice vb Ly.length vd : Value).ownBlock ≠ some j := by
                    intro j h1 h2
                    rcases h8 with e | e
                    · exact hxy j h1 (by rw [← e]; exact h2)
                    · rw [e] at h2
                      have := (ownN_lt oxg h1).2
                      simp only [Option.some.injEq] at h2
                      omega
                  refine ⟨⟨m + 1, by omega, by go_num, ?_⟩, by simp [intOf]; omega⟩
                  unfold PqR
                  rw [hsu'.out, ← hLx'.out, ← hLy'.out]
                  exact ⟨hf2.out, _, _, M9h, M10h, oxh, oyh, hnh, MAh, MBh, dh, hbh⟩
              · have k1' : (f m == 1) = false := by simp [k1]
                by_cases k2 : f m = 2
                · rw [show ppStep a b (f m) ⟨⟨x0, x1, x2, x3, x4⟩, ⟨y0, y1, y2, y3, y4⟩, qx, qy⟩ = ppY a ⟨⟨x0, x1, x2, x3, x4⟩, ⟨y0, y1, y2, y3, y4⟩, qx, qy⟩ by unfold ppStep; rw [if_neg k0, if_neg k1]] at hsu
                  rw [k2] at fm
                  have hf2 : Hid (∀ i, i < m + 1 → f i = 0 ∨ f i = 1 ∨ f i = 2) := fun i hi => by
                    by_cases e : i = m
                    · subst e; exact .inr (.inr k2)
                    · exact hf'.out i (by omega)
                  cases qy with
                  | nil =>
                    have hsu' : Hid (ppRun a b f (m + 1) = ⟨⟨x0, x1, x2, x3, x4⟩, ⟨y0, y1, y2, y3, y4⟩, qx ++ tl12 0, [] ++ tl12 0⟩) := by rw [Hid, hsu]; simp [ppY, tl12]
                    obtain ⟨qa, qc, rfl, _⟩ := ownN_row oy
                    have h9B : b9 < wB.heap.size := by omega
                    have a0 := M10.2.1 0 _ rfl
                    have a1 := M10.2.1 1 _ rfl
                    have a2 := M10.2.1 2 _ rfl
                    have a3 := M10.2.1 3 _ rfl
                    have a4 := M10.2.1 4 _ rfl
                    have a5 := M10.2.1 5 _ rfl
                    have a6 := M10.2.1 6 _ rfl
                    have C0 := hide (fun w => s_come0 y0 y1 y2 y3 y4 qa qc b a w)
                    clear hsu hT gx gy hf' k0
                    go_wp2_with fail
                    refine (C0.out _).mono ?_
                    rintro e r1 ⟨rfl, br1⟩
                    have hwr : wB.heap.size ≤ wr.heap.size := hbr
                    replace M9 := M9.below br1
                    replace M10 := M10.below br1
                    replace MA := MA.below br1
                    replace MB := MB.below br1
                    replace dr := dr.trans (br1.mono dr.size)
                    replace hbr := Nat.le_trans hbr br1.size
                    replace ox := ownN_below ox br1
                    replace oy := ownN_below oy br1
                    clear br1 a0 a1 a2 a3 a4 a5 a6
                    have c0 := M10.2.1 0 _ rfl
                    have cf0 := M10.2.2 0 (by simp)
                    have c1 := M10.2.1 1 _ rfl
                    have cf1 := M10.2.2 1 (by simp)
                    have c2 := M10.2.1 2 _ rfl
                    have cf2 := M10.2.2 2 (by simp)
                    have c3 := M10.2.1 3 _ rfl
                    have cf3 := M10.2.2 3 (by simp)
                    have c4 := M10.2.1 4 _ rfl
                    have cf4 := M10.2.2 4 (by simp)
                    have c5 := M10.2.1 5 _ rfl
                    have cf5 := M10.2.2 5 (by simp)
                    have c6 := M10.2.1 6 _ rfl
                    have cf6 := M10.2.2 6 (by simp)
                    have oo : Only b10 r1 ((((((((r1.setCell ⟨b10, 0, none⟩ (.int .i64 y0)).setCell ⟨b10, 1, none⟩ (.int .i64 y1)).setCell ⟨b10, 2, none⟩ (.int .i64 y2)).setCell ⟨b10, 3, none⟩ (.int .i64 y3)).setCell ⟨b10, 4, none⟩ (.int .i64 y4)).setCell ⟨b10, 5, none⟩ (.slice qa 0 qc)).setCell ⟨b10, 6, none⟩ (.int .i64 b))) := ((((((((Only.refl b10 r1).setCell 0 (.int .i64 y0)).setCell 1 (.int .i64 y1)).setCell 2 (.int .i64 y2)).setCell 3 (.int .i64 y3)).setCell 4 (.int .i64 y4)).setCell 5 (.slice qa 0 qc)).setCell 6 (.int .i64 b))
                    have MN := (((((((M10.set 0 (.int .i64 y0)).set 1 (.int .i64 y1)).set 2 (.int .i64 y2)).set 3 (.int .i64 y3)).set 4 (.int .i64 y4)).set 5 (.slice qa 0 qc)).set 6 (.int .i64 b))
                    simp only [List.set_cons_zero, List.set_cons_succ] at MN
                    replace M9 := M9.only oo (by omega)
                    replace MA := MA.only oo (by omega)
                    replace MB := MB.only oo (by omega)
                    replace oy := own12_off oy h10B oo
                    replace ox := own12_off ox h10B oo
                    replace dr := below_off12 dr oo (by omega)
                    replace hbr : wB.heap.size ≤ ((((((((r1.setCell ⟨b10, 0, none⟩ (.int .i64 y0)).setCell ⟨b10, 1, none⟩ (.int .i64 y1)).setCell ⟨b10, 2, none⟩ (.int .i64 y2)).setCell ⟨b10, 3, none⟩ (.int .i64 y3)).setCell ⟨b10, 4, none⟩ (.int .i64 y4)).setCell ⟨b10, 5, none⟩ (.slice qa 0 qc)).setCell ⟨b10, 6, none⟩ (.int .i64 b))).heap.size := by simpa using hbr
                    go_upto_region 20 with fail
                    clear c0 c1 c2 c3 c4 c5 c6 cf0 cf1 cf2 cf3 cf4 cf5 cf6 oo M10
                    generalize ((((((r1.setCell ⟨b10, 0, none⟩ (.int .i64 y0)).setCell ⟨b10, 1, none⟩ (.int .i64 y1)).setCell ⟨b10, 2, none⟩ (.int .i64 y2)).setCell ⟨b10, 3, none⟩ (.int .i64 y3)).setCell ⟨b10, 4, none⟩ (.int .i64 y4)).setCell ⟨b10, 5, none⟩ (.slice qa 0 qc)).setCell ⟨b10, 6, none⟩ (.int .i64 b) = G2 at *
                    have M10 := MN
                    clear MN
                    have TX := TB.nil G2.heap.size G2
                    have TY := TB.nil G2.heap.size G2
                    have hXY : ∀ j, vx.ownBlock = some j → j < G2.heap.size := fun j hj => (ownN_lt ox hj).2
                    have hb9Y : b9 < G2.heap.size := M9.1
                    have sX : SrcN .i64 none (tl12 0) 0 G2 := ⟨fun i hi => absurd hi (by simp [tl12]), .inl ⟨rfl, rfl, rfl⟩⟩
                    have sX' := hide sX
                    have z5 := M9.2.1 5 _ rfl
                    have hlx : Hid (qx.length + (tl12 0).length ≤ 8589934593) := by show _ ≤ _; have := tl12_len (0); omega
                    have hly : Hid (([] : List Int).length + (tl12 0).length ≤ 8589934593) := by show _ ≤ _; have := tl12_len (0); omega
                    have hM9 := hide M9
                    clear sX TX M9
                    go_upto_region 21 with (first | (at_builtin; refine wpList_appN numInt rfl _ _ rfl wB.heap.size vx qx rfl ox _ (tl12 0) _ _ rfl rfl sX'.out hlx.out (by decide) hbr ?_; intro v6 w6 own6 b6 g6 h6; obtain ⟨Lx, hLx⟩ : ∃ Lx, Lx = qx ++ tl12 0 := ⟨_, rfl⟩; rw [← hLx] at own6; have hLx' := hide hLx; clear hLx; obtain ⟨va, vc, rfl, _⟩ := ownN_row own6; have M96 := hM9.out.base h9B b6; have m5 := M96.2.1 5 _ rfl; have mf5 := M96.2.2 5 (by simp)))
                    have o6 : Only b9 w6 (w6.setCell ⟨b9, 5, none⟩ (.slice va Lx.length vc)) := (Only.refl b9 w6).setCell 5 _
                    have M9g := M96.set 5 (.slice va Lx.length vc)
                    simp only [List.set_cons_zero, List.set_cons_succ] at M9g
                    have M10g := (M10.base h10B b6).only o6 (by omega)
                    have hkY : (.slice qa 0 qc : Value).ownBlock = none ∨ (.slice qa 0 qc : Value).ownBlock ≠ vx.ownBlock := by
                      cases hv : (.slice qa 0 qc : Value).ownBlock with
                      | none => exact .inl rfl
                      | some j => exact .inr (fun e => hne j e.symm hv)
                    have oxg := own12_off own6 h9B o6
                    have oyg := own12_off (ownN_kept oy g6 hkY) h9B o6
                    have TYg := (TY.grown g6 hXY).only o6 hb9Y
                    have MAg := (MA.base (by omega) b6).only o6 (by omega)
                    have MBg := (MB.base (by omega) b6).only o6 (by omega)
                    have dg := below_off12 (dr.trans (b6.mono (by omega))) o6 (by omega)
                    have hbg : wB.heap.size ≤ (w6.setCell ⟨b9, 5, none⟩ (.slice va Lx.length vc)).heap.size := by simpa using Nat.le_trans hbr b6.size
                    have hxy : ∀ j, (.slice va Lx.length vc : Value).ownBlock = some j → (.slice qa 0 qc : Value).ownBlock ≠ some j := by
                      intro j h1 h2
                      rcases h6 with e | e
                      · exact hne j (by rw [← e]; exact h1) h2
                      · rw [e] at h1
                        have := (ownN_lt oy h2).2
                        simp only [Option.some.injEq] at h1
                        omega
                    clear m5 mf5 M96 M10 own6 ox oy TY MA MB dr hbr b6 g6 h6 o6 hkY hM9 hlx sX' z5
                    generalize w6.setCell ⟨b9, 5, none⟩ (.slice va Lx.length vc) = GG at *
                    have sY : SrcN .i64 none (tl12 0) 0 GG := ⟨fun i hi => absurd hi (by simp [tl12]), .inl ⟨rfl, rfl, rfl⟩⟩
                    have sY' := hide sY
                    have z5 := M10g.2.1 5 _ rfl
                    have hM10 := hide M10g
                    clear sY TYg M10g
                    go_wp2_with (first | (at_builtin; refine wpList_appN numInt rfl _ _ rfl wB.heap.size (.slice qa 0 qc : Value) ([] : List Int) rfl oyg _ (tl12 0) _ _ rfl rfl sY'.out hly.out (by decide) hbg ?_; intro v8 w8 own8 b8 g8 h8; obtain ⟨Ly, hLy⟩ : ∃ Ly, Ly = ([] : List Int) ++ tl12 0 := ⟨_, rfl⟩; rw [← hLy] at own8; have hLy' := hide hLy; clear hLy; obtain ⟨vb, vd, rfl, _⟩ := ownN_row own8; have M18 := hM10.out.base h10B b8; have m5 := M18.2.1 5 _ rfl; have mf5 := M18.2.2 5 (by simp)))
                    have o8 : Only b10 w8 (w8.setCell ⟨b10, 5, none⟩ (.slice vb Ly.length vd)) := (Only.refl b10 w8).setCell 5 _
                    have M10h := M18.set 5 (.slice vb Ly.length vd)
                    simp only [List.set_cons_zero, List.set_cons_succ] at M10h
                    have M9h := (M9g.base h9B b8).only o8 (by omega)
                    have hkX : (.slice va Lx.length vc : Value).ownBlock = none ∨ (.slice va Lx.length vc : Value).ownBlock ≠ (.slice qa 0 qc : Value).ownBlock := by
                      cases hv : (.slice va Lx.length vc : Value).ownBlock with
                      | none => exact .inl rfl
                      | some j => exact .inr (fun e => hxy j hv e.symm)
                    have oxh := own12_off (ownN_kept oxg g8 hkX) h10B o8
                    have oyh := own12_off own8 h10B o8
                    have MAh := (MAg.base (by omega) b8).only o8 (by omega)
                    have MBh := (MBg.base (by omega) b8).only o8 (by omega)
                    have dh := below_off12 (dg.trans (b8.mono (by omega))) o8 (by omega)
                    have hbh : wB.heap.size ≤ (w8.setCell ⟨b10, 5, none⟩ (.slice vb Ly.length vd)).heap.size := by simpa using Nat.le_trans hbg b8.size
                    have hnh : ∀ j, (.slice va Lx.length vc : Value).ownBlock = some j → (.slice vb Ly.length vd : Value).ownBlock ≠ some j := by
                      intro j h1 h2
                      rcases h8 with e | e
                      · exact hxy j h1 (by rw [← e]; exact h2)
                      · rw [e] at h2
                        have := (ownN_lt oxg h1).2
                        simp only [Option.some.injEq] at h2
                        omega
                    refine ⟨⟨m + 1, by omega, by go_num, ?_⟩, by simp [intOf]; omega⟩
                    unfold PqR
                    rw [hsu'.out, ← hLx'.out, ← hLy'.out]
                    exact ⟨hf2.out, _, _, M9h, M10h, oxh, oyh, hnh, MAh, MBh, dh, hbh⟩
                  | cons z q' =>
                    have h9B : b9 < wB.heap.size := by omega
                    obtain ⟨qg, qc, hvq, hqc⟩ := own12_cap oy (by simp)
                    have hRN : RowN .i64 (some ⟨qg, 0, none⟩) (z :: q') wr := by
                      obtain ⟨a', c', e', hr, _⟩ := ownN_row oy
                      rw [hvq] at e'
                      simp only [Value.slice.injEq] at e'
                      rw [e'.1]
                      exact hr
                    have C1 := hide (s_come y0 y1 y2 y3 y4 qg 0 z q' qc b a wr (ky z (by simp)) gy (by simp only [List.length_cons] at ly; omega) (by simpa using hqc) hRN)
                    have hsu2 := hide hsu
                    unfold ppY at hsu2
                    dsimp only at hsu2
                    generalize stp ⟨y0, y1, y2, y3, y4⟩ (evK z) (evN z a) = RR at *
                    obtain ⟨⟨p0, p1, p2, p3, p4⟩, tt⟩ := RR
                    dsimp only at hsu2
                    have hsu' : Hid (ppRun a b f (m + 1) = ⟨⟨x0, x1, x2, x3, x4⟩, ⟨p0, p1, p2, p3, p4⟩, qx ++ tl12 tt, q' ++ tl12 0⟩) := by rw [Hid, hsu2.out]; simp [tl12]
                    subst hvq
                    simp only [List.length_cons] at *
                    have a0 := M10.2.1 0 _ rfl
                    have a1 := M10.2.1 1 _ rfl
                    have a2 := M10.2.1 2 _ rfl
                    have a3 := M10.2.1 3 _ rfl
                    have a4 := M10.2.1 4 _ rfl
                    have a5 := M10.2.1 5 _ rfl
                    have a6 := M10.2.1 6 _ rfl
                    clear hsu hsu2 hT gx gy hf' k0 hRN
                    go_wp2_with fail
                    refine C1.out.mono ?_
                    rintro e r1 ⟨vn, vt, BB, rfl, on, hBB, hoB, TT_, br1⟩
                    obtain ⟨na, nc, rfl, _⟩ := ownN_row on
                    have hwr : wB.heap.size ≤ wr.heap.size := hbr
                    have hne2 : ∀ j, (.slice na q'.length nc : Value).ownBlock = some j → vx.ownBlock ≠ some j := fun j h1 h2 => by
                      have := (ownN_lt on h1).1
                      have := (ownN_lt ox h2).2
                      omega
                    replace M9 := M9.below br1
                    replace M10 := M10.below br1
                    replace MA := MA.below br1
                    replace MB := MB.below br1
                    replace dr := dr.trans (br1.mono dr.size)
                    replace hbr := Nat.le_trans hbr br1.size
                    replace ox := ownN_below ox br1
                    have oy := ownN_base on hwr
                    have hoB' := hide hoB
                    clear br1 a0 a1 a2 a3 a4 a5 a6 hne on hoB
                    have c0 := M10.2.1 0 _ rfl
                    have cf0 := M10.2.2 0 (by simp)
                    have c1 := M10.2.1 1 _ rfl
                    have cf1 := M10.2.2 1 (by simp)
                    have c2 := M10.2.1 2 _ rfl
                    have cf2 := M10.2.2 2 (by simp)
                    have c3 := M10.2.1 3 _ rfl
                    have cf3 := M10.2.2 3 (by simp)
                    have c4 := M10.2.1 4 _ rfl
                    have cf4 := M10.2.2 4 (by simp)
                    have c5 := M10.2.1 5 _ rfl
                    have cf5 := M10.2.2 5 (by simp)
                    have c6 := M10.2.1 6 _ rfl
                    have cf6 := M10.2.2 6 (by simp)
                    have oo : Only b10 r1 ((((((((r1.setCell ⟨b10, 0, none⟩ (.int .i64 p0)).setCell ⟨b10, 1, none⟩ (.int .i64 p1)).setCell ⟨b10, 2, none⟩ (.int .i64 p2)).setCell ⟨b10, 3, none⟩ (.int .i64 p3)).setCell ⟨b10, 4, none⟩ (.int .i64 p4)).setCell ⟨b10, 5, none⟩ (.slice na q'.length nc)).setCell ⟨b10, 6, none⟩ (.int .i64 b))) := ((((((((Only.refl b10 r1).setCell 0 (.int .i64 p0)).setCell 1 (.int .i64 p1)).setCell 2 (.int .i64 p2)).setCell 3 (.int .i64 p3)).setCell 4 (.int .i64 p4)).setCell 5 (.slice na q'.length nc)).setCell 6 (.int .i64 b))
                    have MN := (((((((M10.set 0 (.int .i64 p0)).set 1 (.int .i64 p1)).set 2 (.int .i64 p2)).set 3 (.int .i64 p3)).set 4 (.int .i64 p4)).set 5 (.slice na q'.length nc)).set 6 (.int .i64 b))
                    simp only [List.set_cons_zero, List.set_cons_succ] at MN
                    replace M9 := M9.only oo (by omega)
                    replace MA := MA.only oo (by omega)
                    replace MB := MB.only oo (by omega)
                    replace oy := own12_off oy h10B oo
                    replace ox := own12_off ox h10B oo
                    replace TT_ := TT_.only oo (by omega)
                    replace dr := below_off12 dr oo (by omega)
                    replace hbr : wB.heap.size ≤ ((((((((r1.setCell ⟨b10, 0, none⟩ (.int .i64 p0)).setCell ⟨b10, 1, none⟩ (.int .i64 p1)).setCell ⟨b10, 2, none⟩ (.int .i64 p2)).setCell ⟨b10, 3, none⟩ (.int .i64 p3)).setCell ⟨b10, 4, none⟩ (.int .i64 p4)).setCell ⟨b10, 5, none⟩ (.slice na q'.length nc)).setCell ⟨b10, 6, none⟩ (.int .i64 b))).heap.size := by simpa using hbr
                    go_upto_region 20 with fail
                    clear c0 c1 c2 c3 c4 c5 c6 cf0 cf1 cf2 cf3 cf4 cf5 cf6 oo M10
                    generalize ((((((r1.setCell ⟨b10, 0, none⟩ (.int .i64 p0)).setCell ⟨b10, 1, none⟩ (.int .i64 p1)).setCell ⟨b10, 2, none⟩ (.int .i64 p2)).setCell ⟨b10, 3, none⟩ (.int .i64 p3)).setCell ⟨b10, 4, none⟩ (.int .i64 p4)).setCell ⟨b10, 5, none⟩ (.slice na q'.length nc)).setCell ⟨b10, 6, none⟩ (.int .i64 b) = G2 at *
                    have M10 := MN
                    clear MN
                    have TX := TT_
                    have TY := TB.nil G2.heap.size G2
                    have hne : ∀ j, vx.ownBlock = some j → (.slice na q'.length nc : Value).ownBlock ≠ some j := fun j h1 h2 => hne2 j h2 h1
                    have hXY : ∀ j, vx.ownBlock = some j → j < G2.heap.size := fun j hj => (ownN_lt ox hj).2
                    have hb9Y : b9 < G2.heap.size := M9.1
                    clear TT_
                    obtain ⟨xa, xc, rfl, sX⟩ := TX.src
                    have sX' := hide sX
                    have z5 := M9.2.1 5 _ rfl
                    have hlx : Hid (qx.length + (tl12 tt).length ≤ 8589934593) := by show _ ≤ _; have := tl12_len (tt); omega
                    have hly : Hid (q'.length + (tl12 0).length ≤ 8589934593) := by show _ ≤ _; have := tl12_len (0); omega
                    have hM9 := hide M9
                    clear sX TX M9
                    go_upto_region 21 with (first | (at_builtin; refine wpList_appN numInt rfl _ _ rfl wB.heap.size vx qx rfl ox _ (tl12 tt) _ _ rfl rfl sX'.out hlx.out (by decide) hbr ?_; intro v6 w6 own6 b6 g6 h6; obtain ⟨Lx, hLx⟩ : ∃ Lx, Lx = qx ++ tl12 tt := ⟨_, rfl⟩; rw [← hLx] at own6; have hLx' := hide hLx; clear hLx; obtain ⟨va, vc, rfl, _⟩ := ownN_row own6; have M96 := hM9.out.base h9B b6; have m5 := M96.2.1 5 _ rfl; have mf5 := M96.2.2 5 (by simp)))
                    have o6 : Only b9 w6 (w6.setCell ⟨b9, 5, none⟩ (.slice va Lx.length vc)) := (Only.refl b9 w6).setCell 5 _
                    have M9g := M96.set 5 (.slice va Lx.length vc)
                    simp only [List.set_cons_zero, List.set_cons_succ] at M9g
                    have M10g := (M10.base h10B b6).only o6 (by omega)
                    have hkY : (.slice na q'.length nc : Value).ownBlock = none ∨ (.slice na q'.length nc : Value).ownBlock ≠ vx.ownBlock := by
                      cases hv : (.slice na q'.length nc : Value).ownBlock with
                      | none => exact .inl rfl
                      | some j => exact .inr (fun e => hne j e.symm hv)
                    have oxg := own12_off own6 h9B o6
                    have oyg := own12_off (ownN_kept oy g6 hkY) h9B o6
                    have TYg := (TY.grown g6 hXY).only o6 hb9Y
                    have MAg := (MA.base (by omega) b6).only o6 (by omega)
                    have MBg := (MB.base (by omega) b6).only o6 (by omega)
                    have dg := below_off12 (dr.trans (b6.mono (by omega))) o6 (by omega)
                    have hbg : wB.heap.size ≤ (w6.setCell ⟨b9, 5, none⟩ (.slice va Lx.length vc)).heap.size := by simpa using Nat.le_trans hbr b6.size
                    have hxy : ∀ j, (.slice va Lx.length vc : Value).ownBlock = some j → (.slice na q'.length nc : Value).ownBlock ≠ some j := by
                      intro j h1 h2
                      rcases h6 with e | e
                      · exact hne j (by rw [← e]; exact h1) h2
                      · rw [e] at h1
                        have := (ownN_lt oy h2).2
                        simp only [Option.some.injEq] at h1
                        omega
                    clear m5 mf5 M96 M10 own6 ox oy TY MA MB dr hbr b6 g6 h6 o6 hkY hM9 hlx sX' z5
                    generalize w6.setCell ⟨b9, 5, none⟩ (.slice va Lx.length vc) = GG at *
                    have sY : SrcN .i64 none (tl12 0) 0 GG := ⟨fun i hi => absurd hi (by simp [tl12]), .inl ⟨rfl, rfl, rfl⟩⟩
                    have sY' := hide sY
                    have z5 := M10g.2.1 5 _ rfl
                    have hM10 := hide M10g
                    clear sY TYg M10g
                    go_wp2_with (first | (at_builtin; refine wpList_appN numInt rfl _ _ rfl wB.heap.size (.slice na q'.length nc : Value) q' rfl oyg _ (tl12 0) _ _ rfl rfl sY'.out hly.out (by decide) hbg ?_; intro v8 w8 own8 b8 g8 h8; obtain ⟨Ly, hLy⟩ : ∃ Ly, Ly = q' ++ tl12 0 := ⟨_, rfl⟩; rw [← hLy] at own8; have hLy' := hide hLy; clear hLy; obtain ⟨vb, vd, rfl, _⟩ := ownN_row own8; have M18 := hM10.out.base h10B b8; have m5 := M18.2.1 5 _ rfl; have mf5 := M18.2.2 5 (by simp)))
                    have o8 : Only b10 w8 (w8.setCell ⟨b10, 5, none⟩ (.slice vb Ly.length vd)) := (Only.refl b10 w8).setCell 5 _
                    have M10h := M18.set 5 (.slice vb Ly.length vd)
                    simp only [List.set_cons_zero, List.set_cons_succ] at M10h
                    have M9h := (M9g.base h9B b8).only o8 (by omega)
                    have hkX : (.slice va Lx.length vc : Value).ownBlock = none ∨ (.slice va Lx.length vc : Value).ownBlock ≠ (.slice na q'.length nc : Value).ownBlock := by
                      cases hv : (.slice va Lx.length vc : Value).ownBlock with
                      | none => exact .inl rfl
                      | some j => exact .inr (fun e => hxy j hv e.symm)
                    have oxh := own12_off (ownN_kept oxg g8 hkX) h10B o8
                    have oyh := own12_off own8 h10B o8
                    have MAh := (MAg.base (by omega) b8).only o8 (by omega)
                    have MBh := (MBg.base (by omega) b8).only o8 (by omega)
                    have dh := below_off12 (dg.trans (b8.mono (by omega))) o8 (by omega)
                    have hbh : wB.heap.size ≤ (w8.setCell ⟨b10, 5, none⟩ (.slice vb Ly.length vd)).heap.size := by simpa using Nat.le_trans hbg b8.size
                    have hnh : ∀ j, (.slice va Lx.length vc : Value).ownBlock = some j → (.slice vb Ly.length vd : Value).ownBlock ≠ some j := by
                      intro j h1 h2
                      rcases h8 with e | e
                      · exact hxy j h1 (by rw [← e]; exact h2)
                      · rw [e] at h2
                        have := (ownN_lt oxg h1).2
                        simp only [Option.some.injEq] at h2
                        omega
                    refine ⟨⟨m + 1, by omega, by go_num, ?_⟩, by simp [intOf]; omega⟩
                    unfold PqR
                    rw [hsu'.out, ← hLx'.out, ← hLy'.out]
                    exact ⟨hf2.out, _, _, M9h, M10h, oxh, oyh, hnh, MAh, MBh, dh, hbh⟩
                · have k2' : (f m == 2) = false := by simp [k2]
                  have hN : ¬ PqOk a b n f := fun g => by rcases g.2.2.2 m hlt with h | h | h <;> contradiction
                  have d1 := dr
                  have u0 := MA.2.1 0 _ rfl
                  have uf0 := MA.2.2 0 (by simp)
                  have v0 := MB.2.1 0 _ rfl
                  have vf0 := MB.2.2 0 (by simp)
                  have u1 := MA.2.1 1 _ rfl
                  have uf1 := MA.2.2 1 (by simp)
                  have v1 := MB.2.1 1 _ rfl
                  have vf1 := MB.2.2 1 (by simp)
                  have u2 := MA.2.1 2 _ rfl
                  have uf2 := MA.2.2 2 (by simp)
                  have v2 := MB.2.1 2 _ rfl
                  have vf2 := MB.2.2 2 (by simp)
                  have u3 := MA.2.1 3 _ rfl
                  have uf3 := MA.2.2 3 (by simp)
                  have v3 := MB.2.1 3 _ rfl
                  have vf3 := MB.2.2 3 (by simp)
                  have u4 := MA.2.1 4 _ rfl
                  have uf4 := MA.2.2 4 (by simp)
                  have v4 := MB.2.1 4 _ rfl
                  have vf4 := MB.2.2 4 (by simp)
                  generalize f m = fv at *
                  clear M9 M10 ox oy hne MA MB dr hsu hT gx gy
                  go_wp2_with fail
                  refine bodyPost_ret (v := .tuple #[(⟨0, 0, 0, 0, 0⟩ : Se).v, (⟨0, 0, 0, 0, 0⟩ : Se).v, .bool false]) (by simp [results, Try.results6, go_sem, u0, u1, u2, u3, u4, v0, v1, v2, v3, v4]) rfl ?_
                  rw [(pq_f hN).1, (pq_f hN).2.1, (pq_f hN).2.2]
                  exact ⟨rfl, (by (repeat (first | with_reducible exact Below.refl _ _ | with_reducible exact d1 | with_reducible apply Below.setCell | with_reducible apply Below.alloc | with_reducible apply Below.drew | with_reducible refine below_drewN ?_ _)); all_goals (first | (simp; done) | (simp; omega) | omega))⟩
          · have hlt' : ¬ (m : Int) < (n : Int) := by omega
            have hmn : m = n := by omega
            subst hmn
            have hY : PqOk a b m f := ⟨ca, cb, cn, hf'.out⟩
            have d1 := dr
            have u0 := MA.2.1 0 _ rfl
            have uf0 := MA.2.2 0 (by simp)
            have v0 := MB.2.1 0 _ rfl
            have vf0 := MB.2.2 0 (by simp)
            have u1 := MA.2.1 1 _ rfl
            have uf1 := MA.2.2 1 (by simp)
            have v1 := MB.2.1 1 _ rfl
            have vf1 := MB.2.2 1 (by simp)
            have u2 := MA.2.1 2 _ rfl
            have uf2 := MA.2.2 2 (by simp)
            have v2 := MB.2.1 2 _ rfl
            have vf2 := MB.2.2 2 (by simp)
            have u3 := MA.2.1 3 _ rfl
            have uf3 := MA.2.2 3 (by simp)
            have v3 := MB.2.1 3 _ rfl
            have vf3 := MB.2.2 3 (by simp)
            have u4 := MA.2.1 4 _ rfl
            have uf4 := MA.2.2 4 (by simp)
            have v4 := MB.2.1 4 _ rfl
            have vf4 := MB.2.2 4 (by simp)
            have e0 := M9.2.1 0 _ rfl
            have e1 := M9.2.1 1 _ rfl
            have e2 := M9.2.1 2 _ rfl
            have e3 := M9.2.1 3 _ rfl
            have e4 := M9.2.1 4 _ rfl
            have g0 := M10.2.1 0 _ rfl
            have g1 := M10.2.1 1 _ rfl
            have g2 := M10.2.1 2 _ rfl
            have g3 := M10.2.1 3 _ rfl
            have g4 := M10.2.1 4 _ rfl
            clear M9 M10 ox oy hne MA MB dr hsu gx gy s2 hR
            go_wp2_with fail
            go_region
            all_goals go_wp2_with fail
            all_goals refine bodyPost_ret (v := .tuple #[(⟨x0, x1, x2, x3, x4⟩ : Se).v, (⟨y0, y1, y2, y3, y4⟩ : Se).v, .bool true]) (by simp [results, Try.results6, go_sem, u0, u1, u2, u3, u4, v0, v1, v2, v3, v4]) rfl ?_
            all_goals rw [(pq_t hY).1, (pq_t hY).2.1, (pq_t hY).2.2, hT]
            all_goals exact ⟨rfl, (by (repeat (first | with_reducible exact Below.refl _ _ | with_reducible exact d1 | with_reducible apply Below.setCell | with_reducible apply Below.alloc | with_reducible apply Below.drew | with_reducible refine below_drewN ?_ _)); all_goals (first | (simp; done) | (simp; omega) | omega))⟩
        
      · have cn' : (n : Int) > 100 := by omega
        have hN : ¬ PqOk a b n f := fun g => cn g.2.2.1
        rw [(pq_f hN).1, (pq_f hN).2.1, (pq_f hN).2.2]
        clear hN MA MB dd
        go_enter Try.func6, Try.ntmps6
        go_wp2_with (go_at_call 14; refine (s_in _ _ _ _).mono ?_; rintro e w' ⟨rfl, rfl⟩)
        exact bodyPost_ret (v := .tuple #[(⟨0, 0, 0, 0, 0⟩ : Se).v, (⟨0, 0, 0, 0, 0⟩ : Se).v, .bool false]) (by simp [results, Try.results6, go_sem]) rfl ⟨rfl, (by (repeat (first | with_reducible exact Below.refl _ _ | with_reducible exact d1 | with_reducible apply Below.setCell | with_reducible apply Below.alloc | with_reducible apply Below.drew | with_reducible refine below_drewN ?_ _)); all_goals (first | (simp; done) | (simp; omega) | omega))⟩
    · have ib : inB b 3 90 = false := inB_n cb
      have hN : ¬ PqOk a b n f := fun g => cb g.2.1
      rw [(pq_f hN).1, (pq_f hN).2.1, (pq_f hN).2.2]
      clear hN MA MB dd
      go_enter Try.func6, Try.ntmps6
      go_wp2_with (go_at_call 14; refine (s_in _ _ _ _).mono ?_; rintro e w' ⟨rfl, rfl⟩)
      exact bodyPost_ret (v := .tuple #[(⟨0, 0, 0, 0, 0⟩ : Se).v, (⟨0, 0, 0, 0, 0⟩ : Se).v, .bool false]) (by simp [results, Try.results6, go_sem]) rfl ⟨rfl, (by (repeat (first | with_reducible exact Below.refl _ _ | with_reducible exact d1 | with_reducible apply Below.setCell | with_reducible apply Below.alloc | with_reducible apply Below.drew | with_reducible refine below_drewN ?_ _)); all_goals (first | (simp; done) | (simp; omega) | omega))⟩
  · have ia : inB a 3 90 = false := inB_n ca
    have hN : ¬ PqOk a b n f := fun g => ca g.1
    rw [(pq_f hN).1, (pq_f hN).2.1, (pq_f hN).2.2]
    clear hN MA MB dd
    go_enter Try.func6, Try.ntmps6
    go_wp2_with (go_at_call 14; refine (s_in _ _ _ _).mono ?_; rintro e w' ⟨rfl, rfl⟩)
    exact bodyPost_ret (v := .tuple #[(⟨0, 0, 0, 0, 0⟩ : Se).v, (⟨0, 0, 0, 0, 0⟩ : Se).v, .bool false]) (by simp [results, Try.results6, go_sem]) rfl ⟨rfl, (by (repeat (first | with_reducible exact Below.refl _ _ | with_reducible exact d1 | with_reducible apply Below.setCell | with_reducible apply Below.alloc | with_reducible apply Below.drew | with_reducible refine below_drewN ?_ _)); all_goals (first | (simp; done) | (simp; omega) | omega))⟩
end Go.Proofs.Ytjfalfjadleegaa
