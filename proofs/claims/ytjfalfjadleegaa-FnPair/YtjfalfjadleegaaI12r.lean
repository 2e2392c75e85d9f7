/- What a side of the program meets: an event; what it tells is put behind what was told to the other one. -/
import Derived.Test.YtjfalfjadleegaaI12q
import Derived.Test.YtjfalfjadleegaaMemW
import Derived.Deep.DeepCutAuto
import Derived.Deep.CutRange
import Derived.Deep.RegionHeld3
namespace Go.Proofs.Ytjfalfjadleegaa
open Go.RowKit

theorem own12_kept {e : TypeId} {k : IntKind} {w w' : World} {base : Nat} {r : Option Nat} {v : Value} {L : List Int} (h : OwnN e k base v L w) (hg : w.grownBy w' r) (hn : v.ownBlock = none ∨ v.ownBlock ≠ r) : OwnN e k base v L w' :=
  World.ownsRow.kept h hg hn
theorem ownN_lt12 {e : TypeId} {k : IntKind} {w : World} {base : Nat} {v : Value} {L : List Int} (h : OwnN e k base v L w) : ∀ j, v.ownBlock = some j → base ≤ j ∧ j < w.heap.size := fun j hj => World.ownsRow.lt h j hj
/-- A session in a box of its own, and what was told. -/
def MtR (w0 : World) (y0 y1 y2 y3 y4 t : Int) (p v : Value) (wx : World) : Prop :=
  ∃ q, p = .pointer (some ⟨q, 0, none⟩) ∧ w0.heap.size ≤ q ∧ Mut wx q [.int .i64 y0, .int .i64 y1, .int .i64 y2, .int .i64 y3, .int .i64 y4] ∧ TB w0.heap.size v t wx ∧ Below w0.heap.size w0 wx
theorem MtR.new {w0 w3 : World} {y0 y1 y2 y3 y4 t : Int} {v : Value} {B : Nat} {ty : TypeId} (h : TB B v t w3) (hB : w0.heap.size ≤ B) (d : Below w0.heap.size w0 w3) :
    MtR w0 y0 y1 y2 y3 y4 t (.pointer (some ⟨w3.heap.size, 0, none⟩)) v (w3.alloc (.cells #[.int .i64 y0, .int .i64 y1, .int .i64 y2, .int .i64 y3, .int .i64 y4] ty)) :=
  ⟨_, rfl, d.size, Mut.new w3 _ _, (h.base hB).below (below_box (Below.refl _ _)), d.alloc d.size _⟩
theorem MtR.set {w0 w3 : World} {y0 y1 y2 y3 y4 t : Int} {v : Value} {B q : Nat} {z0 z1 z2 z3 z4 : Value} (M : Mut w3 q [z0, z1, z2, z3, z4]) (h : TB B v t w3) (hq : q < B) (h0 : w0.heap.size ≤ q) (d : Below w0.heap.size w0 w3) :
    MtR w0 y0 y1 y2 y3 y4 t (.pointer (some ⟨q, 0, none⟩)) v (((((w3.setCell ⟨q, 0, none⟩ (.int .i64 y0)).setCell ⟨q, 1, none⟩ (.int .i64 y1)).setCell ⟨q, 2, none⟩ (.int .i64 y2)).setCell ⟨q, 3, none⟩ (.int .i64 y3)).setCell ⟨q, 4, none⟩ (.int .i64 y4)) :=
  ⟨q, rfl, h0, ((((M.set 0 _).set 1 _).set 2 _).set 3 _).set 4 _, (TB.set (TB.set (TB.set (TB.set (TB.set h hq _ _) hq _ _) hq _ _) hq _ _) hq _ _).base (by omega), ((((d.setCell h0 _).setCell h0 _).setCell h0 _).setCell h0 _).setCell h0 _⟩
set_option maxRecDepth 100000 in
set_option maxHeartbeats 6400000 in
theorem i_meets (x0 x1 x2 x3 x4 bg c : Int) (vp : Value) (z0 z1 z2 z3 z4 bh d : Int) (vo : Value) (k n : Int) (bp bo base : Nat) (L : List Int) (w : World) (hG : GS ⟨x0, x1, x2, x3, x4⟩) (hne : bp ≠ bo) (hp : bp < base) (ho : bo < base) (hb : base ≤ w.heap.size) (hL : L.length ≤ 1000)
    (MP : Mut w bp [.int .i64 x0, .int .i64 x1, .int .i64 x2, .int .i64 x3, .int .i64 x4, .int .i64 bg, vp, .int .i64 c]) (MO : Mut w bo [.int .i64 z0, .int .i64 z1, .int .i64 z2, .int .i64 z3, .int .i64 z4, .int .i64 bh, vo, .int .i64 d]) (oo : OwnN 3 .i64 base vo L w) :
    Calls Try.prog 20 #[.pointer (some ⟨bp, 0, none⟩), .agg #[.int .i64 k, .int .i64 n], .pointer (some ⟨bo, 0, none⟩)] w fun e w' => e = .returned (.tuple #[]) ∧ ∃ vo', Mut w' bp [.int .i64 (stp ⟨x0, x1, x2, x3, x4⟩ k n).1.st, .int .i64 (stp ⟨x0, x1, x2, x3, x4⟩ k n).1.ho, .int .i64 (stp ⟨x0, x1, x2, x3, x4⟩ k n).1.le, .int .i64 (stp ⟨x0, x1, x2, x3, x4⟩ k n).1.qu, .int .i64 (stp ⟨x0, x1, x2, x3, x4⟩ k n).1.up, .int .i64 bg, vp, .int .i64 c] ∧ Mut w' bo [.int .i64 z0, .int .i64 z1, .int .i64 z2, .int .i64 z3, .int .i64 z4, .int .i64 bh, vo', .int .i64 d] ∧ OwnN 3 .i64 base vo' (L ++ tl12 (stp ⟨x0, x1, x2, x3, x4⟩ k n).2) w' ∧
      OnlyP (fun j => j = bp ∨ j = bo ∨ vo.ownBlock = some j) w w' ∧ (vo'.ownBlock = vo.ownBlock ∨ ∃ j, w.heap.size ≤ j ∧ vo'.ownBlock = some j) := by
  have s1 := hide (fun w => i_step ⟨x0, x1, x2, x3, x4⟩ k n w hG)
  generalize stp ⟨x0, x1, x2, x3, x4⟩ k n = T at *
  obtain ⟨⟨y0, y1, y2, y3, y4⟩, t⟩ := T
  have bE : Below w.heap.size w (w.alloc (.cells #[.int .i64 k, .int .i64 n] 63)) := below_box (Below.refl _ _)
  have ME := Mut.new w #[.int .i64 k, .int .i64 n] 63
  have P0 := OnlyP.of_below (P := fun j => j = bp ∨ j = bo ∨ vo.ownBlock = some j) bE
  have hown := ownN_lt12 oo
  replace MP := MP.below bE
  replace MO := MO.below bE
  replace oo := ownN_below oo bE
  have hw0 : w.heap.size ≤ (w.alloc (.cells #[.int .i64 k, .int .i64 n] 63)).heap.size := bE.size
  clear hG bE
  go_enter Try.func20, Try.ntmps20
  go_upto_region 1 with fail
  generalize w.alloc (.cells #[.int .i64 k, .int .i64 n] 63) = w0 at *
  generalize hbe : w.heap.size = be at *
  have hbe' := hide hbe
  clear hbe
  have KB : Hid (∀ X : World, Below w0.heap.size w0 X → (X.cell? ⟨bp, 0, none⟩ = some (.int .i64 x0) ∧ X.cell? ⟨bp, 1, none⟩ = some (.int .i64 x1) ∧ X.cell? ⟨bp, 2, none⟩ = some (.int .i64 x2) ∧ X.cell? ⟨bp, 3, none⟩ = some (.int .i64 x3) ∧ X.cell? ⟨bp, 4, none⟩ = some (.int .i64 x4) ∧ X.cell? ⟨be, 0, none⟩ = some (.int .i64 k) ∧ X.cell? ⟨be, 1, none⟩ = some (.int .i64 n))) := fun X h => ⟨(MP.below h).2.1 0 _ rfl, (MP.below h).2.1 1 _ rfl, (MP.below h).2.1 2 _ rfl, (MP.below h).2.1 3 _ rfl, (MP.below h).2.1 4 _ rfl, (ME.below h).2.1 0 _ rfl, (ME.below h).2.1 1 _ rfl⟩
  have hE0 : be < w0.heap.size := ME.1
  have hS0 : bp < w0.heap.size := MP.1
  have zp0 := MP.2.1 0 _ rfl
  have zp1 := MP.2.1 1 _ rfl
  have zp2 := MP.2.1 2 _ rfl
  have zp3 := MP.2.1 3 _ rfl
  have zp4 := MP.2.1 4 _ rfl
  have ze0 := ME.2.1 0 _ rfl
  have ze1 := ME.2.1 1 _ rfl
  have dZ : Below w0.heap.size w0 w0 := Below.refl _ _
  have AS := fun (o : Obj) k => old1 hS0 o k
  have AE := fun (o : Obj) k => old1 hE0 o k
  go_cut [6, 7] (fun p v wx => MtR w0 y0 y1 y2 y3 y4 t p v wx)
  case first =>
    go_region_held3 (fun w' => w'.cell? ⟨bp, 0, none⟩ = some (.int .i64 x0) ∧ w'.cell? ⟨bp, 1, none⟩ = some (.int .i64 x1) ∧ w'.cell? ⟨bp, 2, none⟩ = some (.int .i64 x2) ∧ w'.cell? ⟨bp, 3, none⟩ = some (.int .i64 x3) ∧ w'.cell? ⟨bp, 4, none⟩ = some (.int .i64 x4) ∧ w'.cell? ⟨be, 0, none⟩ = some (.int .i64 k) ∧ w'.cell? ⟨be, 1, none⟩ = some (.int .i64 n)) (exact KB.out _ (by (repeat (first | with_reducible exact d1 | with_reducible exact dZ | with_reducible apply Below.drew | with_reducible apply Below.setCell | with_reducible apply Below.alloc)); all_goals (first | (simp; done) | (simp; omega) | omega))) (first | (go_at_call 27; refine (s1.out _).mono ?_; rintro e w1 ⟨v, rfl, T1, b1⟩; have d1 : Below w0.heap.size w0 w1 := (by first | with_reducible exact below_step dZ b1 | with_reducible exact below_step dZ.drew b1 | with_reducible exact below_step (dZ.alloc dZ.size _) b1 | with_reducible exact below_step (dZ.alloc dZ.size _).drew b1 | with_reducible exact below_step (dZ.drew.alloc dZ.drew.size _) b1 | with_reducible exact below_step (dZ.drew.alloc dZ.drew.size _).drew b1 | with_reducible exact below_step dZ.drew.drew b1); have hz1 := d1.size; (first | (have M1 : Mut w1 _ _ := (by first | with_reducible exact (Mut.new w0 #[.int .i64 0, .int .i64 0, .int .i64 0, .int .i64 0, .int .i64 0] 27).below b1 | with_reducible exact (Mut.new w0 #[.int .i64 0, .int .i64 0, .int .i64 0, .int .i64 0, .int .i64 0] 27).drew.below b1); have ca0 := M1.2.1 0 _ rfl; have cf0 := M1.2.2 0 (by simp); have ca1 := M1.2.1 1 _ rfl; have cf1 := M1.2.2 1 (by simp); have ca2 := M1.2.1 2 _ rfl; have cf2 := M1.2.2 2 (by simp); have ca3 := M1.2.1 3 _ rfl; have cf3 := M1.2.2 3 (by simp); have ca4 := M1.2.1 4 _ rfl; have cf4 := M1.2.2 4 (by simp); have hm1 := M1.1) | skip)))
    all_goals (go_wp2_with fail; go_meet)
    all_goals first | with_reducible refine MtR.set M1 T1 ?_ ?_ d1 | with_reducible refine MtR.new T1 ?_ d1
    all_goals (first | (simp; done) | (simp at *; omega) | omega)
  case rest =>
    obtain ⟨q6, rfl, hq6, M6, T1, d1⟩ := hcut
    clear KB hE0 zp0 zp1 zp2 zp3 zp4 ze0 ze1 dZ AS AE ME
    replace MP := MP.below d1
    replace MO := MO.below d1
    replace oo := ownN_below oo d1
    replace P0 := P0.trans (OnlyP.of_below d1)
    have a0 := M6.2.1 0 _ rfl
    have a1 := M6.2.1 1 _ rfl
    have a2 := M6.2.1 2 _ rfl
    have a3 := M6.2.1 3 _ rfl
    have a4 := M6.2.1 4 _ rfl
    have c0 := MP.2.1 0 _ rfl
    have cf0 := MP.2.2 0 (by simp)
    have c1 := MP.2.1 1 _ rfl
    have cf1 := MP.2.2 1 (by simp)
    have c2 := MP.2.1 2 _ rfl
    have cf2 := MP.2.2 2 (by simp)
    have c3 := MP.2.1 3 _ rfl
    have cf3 := MP.2.2 3 (by simp)
    have c4 := MP.2.1 4 _ rfl
    have cf4 := MP.2.2 4 (by simp)
    have on : Only bp wc (((((wc.setCell ⟨bp, 0, none⟩ (.int .i64 y0)).setCell ⟨bp, 1, none⟩ (.int .i64 y1)).setCell ⟨bp, 2, none⟩ (.int .i64 y2)).setCell ⟨bp, 3, none⟩ (.int .i64 y3)).setCell ⟨bp, 4, none⟩ (.int .i64 y4)) := ((((((Only.refl bp wc).setCell 0 (.int .i64 y0)).setCell 1 (.int .i64 y1)).setCell 2 (.int .i64 y2)).setCell 3 (.int .i64 y3)).setCell 4 (.int .i64 y4))
    have MP' := (((((MP.set 0 (.int .i64 y0)).set 1 (.int .i64 y1)).set 2 (.int .i64 y2)).set 3 (.int .i64 y3)).set 4 (.int .i64 y4))
    simp only [List.set_cons_zero, List.set_cons_succ] at MP'
    replace MO := MO.only on (Ne.symm hne)
    replace oo := own12_off oo hp on
    have Tg := T1.only on (by omega)
    replace P0 := P0.trans (OnlyP.of_only on (.inl rfl))
    have hbc : base ≤ (((((wc.setCell ⟨bp, 0, none⟩ (.int .i64 y0)).setCell ⟨bp, 1, none⟩ (.int .i64 y1)).setCell ⟨bp, 2, none⟩ (.int .i64 y2)).setCell ⟨bp, 3, none⟩ (.int .i64 y3)).setCell ⟨bp, 4, none⟩ (.int .i64 y4)).heap.size := by have := d1.size; simp; omega
    have hbG : be ≤ (((((wc.setCell ⟨bp, 0, none⟩ (.int .i64 y0)).setCell ⟨bp, 1, none⟩ (.int .i64 y1)).setCell ⟨bp, 2, none⟩ (.int .i64 y2)).setCell ⟨bp, 3, none⟩ (.int .i64 y3)).setCell ⟨bp, 4, none⟩ (.int .i64 y4)).heap.size := by have := d1.size; simp; omega
    have hl9 : Hid (L.length + (tl12 t).length ≤ 8589934593) := by show _ ≤ _; have := tl12_len t; omega
    go_upto_region 3 with fail
    clear a0 a1 a2 a3 a4 c0 c1 c2 c3 c4 cf0 cf1 cf2 cf3 cf4 on MP M6 T1 d1
    generalize (((((wc.setCell ⟨bp, 0, none⟩ (.int .i64 y0)).setCell ⟨bp, 1, none⟩ (.int .i64 y1)).setCell ⟨bp, 2, none⟩ (.int .i64 y2)).setCell ⟨bp, 3, none⟩ (.int .i64 y3)).setCell ⟨bp, 4, none⟩ (.int .i64 y4)) = G at *
    obtain ⟨ta, tc, rfl, sT⟩ := Tg.src
    have sT' := hide sT
    have z6 := MO.2.1 6 _ rfl
    have hMO := hide MO
    clear sT MO Tg
    go_wp2_with (first | (at_builtin; refine wpList_appN numInt rfl _ _ rfl base vo L rfl oo _ (tl12 t) _ _ rfl rfl sT'.out hl9.out (by decide) hbc ?_; intro v6 w6 own6 b6 g6 h6; obtain ⟨Lx, hLx⟩ : ∃ Lx, Lx = L ++ tl12 t := ⟨_, rfl⟩; rw [← hLx] at own6; have hLx' := hide hLx; clear hLx; obtain ⟨va, vc, rfl, _⟩ := ownN_row own6; have MO6 := hMO.out.base ho b6; have m6 := MO6.2.1 6 _ rfl; have mf6 := MO6.2.2 6 (by simp)))
    go_end0
    have on6 : Only bo w6 (w6.setCell ⟨bo, 6, none⟩ (.slice va Lx.length vc)) := (Only.refl bo w6).setCell 6 _
    have MO7 := MO6.set 6 (.slice va Lx.length vc)
    simp only [List.set_cons_zero, List.set_cons_succ] at MO7
    refine ⟨rfl, (MP'.base hp b6).only on6 hne, _, MO7, ?_, ?_, ?_⟩
    · rw [← hLx'.out]
      exact own12_off own6 ho on6
    · exact (P0.trans (OnlyP.of_grown g6 (fun k hk => .inr (.inr hk)))).trans (OnlyP.of_only on6 (.inr (.inl rfl)))
    · rcases h6 with e | e
      · exact .inl e
      · exact .inr ⟨_, by rw [hbe'.out]; exact hbG, e⟩
end Go.Proofs.Ytjfalfjadleegaa
