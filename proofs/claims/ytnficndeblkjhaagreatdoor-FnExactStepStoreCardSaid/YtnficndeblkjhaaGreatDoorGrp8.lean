/- slices.SortFunc at leaves: what the sort leaves. -/
import Derived.Test.YtnficndeblkjhaaGreatDoorGrp7
import Derived.Test.YtnficndeblkjhaaGreatDoorGrp3
import Derived.Shelf.SlGeneric
import Derived.Shelf.SlSortCmp.NoneTotal
import Derived.Ground.SlsfProg
import Derived.Test.YtnficndeblkjhaaGreatDoorProg
import Derived.Test.YtnficndeblkjhaaGreatDoorI15b
import Derived.Test.YtnficndeblkjhaaGreatDoorGrp5
/- DeleteAt of the program. -/
namespace Go.Proofs.YtnficndeblkjhaaGreatDoor
open Go.RowKit

set_option maxRecDepth 100000 in
set_option maxHeartbeats 3200000 in
theorem i_deleteAt (a : Option Addr) (N c : Nat) (T : Nat → Lf) (a1 : Option Addr) (n c1 : Nat) (p : Nat → ByteArray) (w : World) (hN : N ≤ 1048576) (hl : LowF N T) (hR : RowF true a N T w) (Q0 : RowStr a1 n p w) :
    Calls Tryz.prog 68 #[.slice a N c, .slice a1 n c1] w fun e w' => ∃ v, e = .returned (.tuple #[v, .bool (delA N T n p).2]) ∧ ∃ L, LsF w.heap.size v L w' ∧ L.map (·.t) = (delA N T n p).1 ∧ Below w.heap.size w w' := by
  have hY : Hid (GC N T → Pw n p → (if (delL N T n p).length = N then ([], false) else (delL N T n p, true)) = delA N T n p) := fun h g => by
    unfold delA
    by_cases e : (delL N T n p).length = N
    · rw [if_pos e, if_neg (by simp [tB_f (fun k : GC N T ∧ Pw n p ∧ (delL N T n p).length ≠ N => k.2.2 e)])]
    · rw [if_neg e, if_pos (tB_t ⟨h, g, e⟩)]
  have hZ : Hid (¬ (GC N T ∧ Pw n p ∧ (delL N T n p).length ≠ N) → delA N T n p = ([], false)) := fun h => if_neg (by simp [tB_f h])
  have G := hide (fun w R => i_goodConfig a N c T w hN hl R)
  have W := hide (fun w R => i_isWay a1 n c1 p w R)
  generalize delA N T n p = GA at *
  go_enter Tryz.func68, Tryz.ntmps68
  go_wp2_with fail
  refine (G.out _ hR).mono ?_
  rintro e w1 ⟨rfl, b1⟩
  by_cases hg : GC N T
  case neg =>
    rw [tB_f hg]
    have hE := hide (hZ.out (fun h => hg h.1))
    clear hY hZ
    go_wp2_with fail
    exact bodyPost_ret (v := .tuple #[.slice none 0 0, .bool GA.2]) (by rw [hE.out]; simp [results, Tryz.results68, go_sem]) rfl ⟨_, rfl, [], LsF.nil _ _, by rw [hE.out]; rfl, b1⟩
  rw [tB_t hg]
  go_wp2_with fail
  refine (W.out _ (Q0.below b1)).mono ?_
  rintro e w2 ⟨rfl, b2⟩
  have d2 := below_step b1 b2
  clear b1 b2 G W
  by_cases hp : Pw n p
  case neg =>
    rw [tB_f hp]
    have hE := hide (hZ.out (fun h => hp h.2.1))
    clear hY hZ
    go_wp2_with fail
    exact bodyPost_ret (v := .tuple #[.slice none 0 0, .bool GA.2]) (by rw [hE.out]; simp [results, Tryz.results68, go_sem]) rfl ⟨_, rfl, [], LsF.nil _ _, by rw [hE.out]; rfl, d2⟩
  rw [tB_t hp]
  have hn30 : N ≤ 30 := hg.2
  have hT1 : Hid (∀ i, i < N → 1 ≤ (T i).n ∧ (T i).n ≤ 5) := fun i hi => ⟨(hg.1 i hi).1.1, (hg.1 i hi).1.2.1⟩
  have hn5 : 1 ≤ n ∧ n ≤ 5 := ⟨hp.1, hp.2.1⟩
  replace hY := hide (hY.out hg hp)
  have OW := hide (fun a c M T w h1 h2 R => i_ownLeaves a M c T w h1 h2 R)
  clear hZ hp hg
  go_wp2_with fail
  go_loopw [6, 8, 19] (fun x _ y wr => ∃ (k : Nat) (M : List Al15), y = .int .i64 k ∧ k ≤ N ∧ M.length ≤ k ∧ AlF w.heap.size x M w wr ∧ Hid (M.map (·.t) = flt15 (fun i => ¬ Bg n p (T i).n (T i).p) T k) ∧ Below w.heap.size w wr) (fun _ _ y _ => N - (intOf y).toNat)
  case atStart => exact ⟨0, [], rfl, Nat.zero_le _, Nat.le_refl _, AlF.nil _ _ _, rfl, d2⟩
  case round =>
    clear d2
    obtain ⟨k, M, rfl, hk, hMk, AL, hm, hb⟩ := hrel
    by_cases hlt : k < N
    · obtain ⟨b0, off, a0, c0, rfl, hbw, u0, u1, hc0, R0⟩ := hR k hlt
      replace u0 := (hb.cell (p := ⟨b0, off + k * 2, none⟩) hbw).trans u0
      replace u1 := (hb.cell (p := ⟨b0, off + k * 2 + 1, none⟩) hbw).trans u1
      replace hc0 := hc0 rfl
      have hlt' : (k : Int) < (N : Int) := by omega
      have lk := (hl k hlt).1
      have MB := Mut.new wr #[.slice a0 (T k).n c0, .string (T k).v] 87
      have bB : Below wr.heap.size wr (wr.alloc (.cells #[.slice a0 (T k).n c0, .string (T k).v] 87)) := below_box (Below.refl _ _)
      have d1 := below_step hb bB
      have AL1 := AL.below bB
      have S := hide (fun w R Q => i_begins a0 a1 (T k).n n c0 c1 (T k).p p w lk hc0 R Q)
      have hbs := hb.size
      by_cases hs : Bg n p (T k).n (T k).p
      · rw [tB_t hs] at S
        have hmN : Hid (M.map (·.t) = flt15 (fun i => ¬ Bg n p (T i).n (T i).p) T (k + 1)) := hm.out.trans (flt15_no (P := fun i => ¬ Bg n p (T i).n (T i).p) (fun h => h hs)).symm
        clear hm hs hR hl AL bB hb hY OW hT1
        generalize T k = t at *
        obtain ⟨tn, tp, tv⟩ := t
        dsimp only at *
        go_wp2_with fail
        generalize wr.alloc (.cells #[.slice a0 tn c0, .string tv] 87) = w1 at *
        generalize wr.heap.size = bx at *
        refine (S.out _ (R0.below d1) (Q0.below d1)).mono ?_
        rintro e w3 ⟨rfl, b3⟩
        have d3 := d1.trans (b3.mono d1.size)
        replace AL1 := AL1.below b3
        clear b3 d1 u0 u1 MB
        go_wp2_with fail
        exact ⟨⟨k + 1, M, by go_num, by omega, by omega, AL1, hmN, d3⟩, by simp [intOf]; omega⟩
      · rw [tB_f hs] at S
        have hmN : Hid ((M ++ [(⟨T k, a0, c0⟩ : Al15)]).map (·.t) = flt15 (fun i => ¬ Bg n p (T i).n (T i).p) T (k + 1)) := by
          show _ = _
          rw [flt15_yes (P := fun i => ¬ Bg n p (T i).n (T i).p) hs, List.map_append, hm.out]; rfl
        clear hm hs hR hl AL bB hb hY OW hT1
        generalize T k = t at *
        obtain ⟨tn, tp, tv⟩ := t
        dsimp only at *
        go_wp2_with fail
        generalize wr.alloc (.cells #[.slice a0 tn c0, .string tv] 87) = w1 at *
        generalize wr.heap.size = bx at *
        refine (S.out _ (R0.below d1) (Q0.below d1)).mono ?_
        rintro e w3 ⟨rfl, b3⟩
        have d3 := d1.trans (b3.mono d1.size)
        replace AL1 := AL1.below b3
        replace MB := MB.below b3
        have q0 := MB.2.1 0 _ rfl
        have q1 := MB.2.1 1 _ rfl
        clear b3 d1 u0 u1
        have own3 := AL1.1
        have own4 := ownW_below own3 (below_box (o := .cells #[.slice a0 tn c0, .string tv] 87) (Below.refl _ _))
        have h1c : Hid (∀ u ∈ ([.slice a0 tn c0, .string tv] : List Value), u.oneCell' = true) := alf_one ⟨⟨tn, tp, tv⟩, a0, c0⟩
        have hlen9 : Hid (M.length + 1 ≤ 8589934593) := by show _ ≤ _; omega
        have hbb := d3.size
        have dA : Below w.heap.size w (w3.alloc (.cells #[.slice a0 tn c0, .string tv] 87)) := below_step d3 (below_box (Below.refl _ _))
        have hba := dA.size
        have RA : RowW (some ⟨w3.heap.size, 0, none⟩) [.slice a0 tn c0, .string tv] (w3.alloc (.cells #[.slice a0 tn c0, .string tv] 87)) := RowW.mut (Mut.new w3 _ _)
        generalize hLM : M.length = LM at *
        generalize hAM : afs M = AM at *
        go_wp2_with (first | (at_builtin; refine wpList_appW leafT rfl _ _ rfl w.heap.size _ LM AM rfl own4 w3.heap.size 0 1 1 [.slice a0 tn c0, .string tv] rfl rfl RA h1c.out hlen9.out (by decide) hba ?_; intro v9 w9 own9 b9 _ _))
        subst hLM hAM
        have D9 := dA.trans b9
        have L9 := AL1.push ⟨⟨tn, tp, tv⟩, a0, c0⟩ hc0 R0 (show OwnW 87 2 w.heap.size v9 (M.length + 1) (afs M ++ alf ⟨⟨tn, tp, tv⟩, a0, c0⟩) w9 from own9)
        clear own9 own4 own3 RA dA b9 q0 q1 AL1 MB h1c
        go_wp2_with fail
        exact ⟨⟨k + 1, M ++ [⟨⟨tn, tp, tv⟩, a0, c0⟩], by go_num, by omega, by simp; omega, L9, hmN, D9⟩, by simp [intOf]; omega⟩
    · have hlt' : ¬ (k : Int) < (N : Int) := by omega
      obtain rfl : k = N := by omega
      obtain ⟨va, vc, rfl, hrow⟩ := AL.row hb
      have hm2 : M.map (·.t) = delL k T n p := hm.out
      have hlm : M.length = (delL k T n p).length := by rw [← hm2]; simp
      have hmem : ∀ i, i < M.length → 1 ≤ (TF (M.map (·.t)) i).n ∧ (TF (M.map (·.t)) i).n ≤ 1048576 := fun i hi => by
        have h1 : TF (M.map (·.t)) i ∈ delL k T n p := by
          rw [← hm2, TF_eq (by simpa using hi)]
          exact List.getElem_mem _
        obtain ⟨j, hj, _, he⟩ := flt15_mem h1
        rw [he]
        have := hT1.out j hj
        omega
      by_cases e : M.length = k
      · have hE := hide (hY.out.symm.trans (if_pos (hlm.symm.trans e)))
        have k0 : ((M.length : Int) == (k : Int)) = true := by simp [e]
        clear hm hm2 hlm hmem hR hl AL hY OW hT1 hrow e
        go_wp2_with fail
        exact bodyPost_ret (v := .tuple #[.slice none 0 0, .bool GA.2]) (by rw [hE.out]; simp [results, Tryz.results68, go_sem]) rfl ⟨_, rfl, [], LsF.nil _ _, by rw [hE.out]; rfl, hb⟩
      · have hE := hide (hY.out.symm.trans (if_neg (fun q => e (hlm.trans q))))
        have k0 : ((M.length : Int) == (k : Int)) = false := by simp; omega
        have OW := hide (OW.out va vc M.length (TF (M.map (·.t))) wr (by omega) hmem hrow.any)
        have hmt : Hid (lsF M.length (TF (M.map (·.t))) = delL k T n p) := by
          show _ = _
          rw [← hm2]
          apply List.ext_getElem (by simp [lsF])
          intro i h1 h2
          simp only [lsF, List.getElem_map, List.getElem_range]
          rw [TF_eq (by simpa using h2)]
          simp
        clear hm hm2 hlm hmem hR hl AL hY hT1 hrow e
        go_wp2_with fail
        refine (OW.out).mono ?_
        rintro e w4 ⟨v, rfl, L, L4, hL4, b4⟩
        have d4 := below_step hb b4
        have L5 := L4.base hb.size
        have hL5 := hL4.trans hmt.out
        go_wp2_with fail
        exact bodyPost_ret (v := .tuple #[v, .bool GA.2]) (by rw [hE.out]; simp [results, Tryz.results68, go_sem]) rfl ⟨_, rfl, L, L5, by rw [hE.out]; exact hL5, d4⟩
end Go.Proofs.YtnficndeblkjhaaGreatDoor

/- slices.SortFunc of the library's shelf at leaves, laid at this program. -/
namespace Go.Proofs
open Go.Shelf
def Tryz.laysSort_ren : Go.Shelf.Ren := ⟨fun | 6 => 98 | 15 => 112 | 14 => 111 | 28 => 123 | 29 => 124 | 20 => 115 | 21 => 116 | 22 => 117 | 23 => 118 | 24 => 119 | 25 => 120 | 26 => 121 | 27 => 122 | 46 => 127 | 47 => 128 | 48 => 129 | 49 => 130 | 50 => 131 | 57 => 132 | n => n, fun | 22 => 31 | 24 => 87 | 25 => 106 | 3 => 3 | 39 => 147 | 0 => 0 | 53 => 159 | 55 => 161 | 4 => 4 | 46 => 152 | 45 => 151 | 50 => 156 | 5 => 5 | 9 => 9 | 66 => 164 | 70 => 168 | 76 => 170 | 77 => 171 | n => n, fun | n => n⟩
theorem Tryz.laysSort : Go.Proofs.SlLaysF0.n6 Tryz.prog Tryz.laysSort_ren := {
  mixed := by kernel_rfl
  f6 := ⟨Tryz.f98.name, by decide, Tryz.func98.trans (congrArg some (by kernel_rfl))⟩
  f14 := ⟨Tryz.f111.name, by decide, Tryz.func111.trans (congrArg some (by kernel_rfl))⟩
  f15 := Tryz.func112.trans (congrArg some (by kernel_rfl))
  f20 := ⟨Tryz.f115.name, by decide, Tryz.func115.trans (congrArg some (by kernel_rfl))⟩
  f21 := ⟨Tryz.f116.name, by decide, Tryz.func116.trans (congrArg some (by kernel_rfl))⟩
  f22 := ⟨Tryz.f117.name, by decide, Tryz.func117.trans (congrArg some (by kernel_rfl))⟩
  f23 := ⟨Tryz.f118.name, by decide, Tryz.func118.trans (congrArg some (by kernel_rfl))⟩
  f24 := ⟨Tryz.f119.name, by decide, Tryz.func119.trans (congrArg some (by kernel_rfl))⟩
  f25 := ⟨Tryz.f120.name, by decide, Tryz.func120.trans (congrArg some (by kernel_rfl))⟩
  f26 := ⟨Tryz.f121.name, by decide, Tryz.func121.trans (congrArg some (by kernel_rfl))⟩
  f27 := ⟨Tryz.f122.name, by decide, Tryz.func122.trans (congrArg some (by kernel_rfl))⟩
  f28 := Tryz.func123.trans (congrArg some (by kernel_rfl))
  f29 := Tryz.func124.trans (congrArg some (by kernel_rfl))
  f46 := ⟨Tryz.f127.name, by decide, Tryz.func127.trans (congrArg some (by kernel_rfl))⟩
  f47 := Tryz.func128.trans (congrArg some (by kernel_rfl))
  f48 := Tryz.func129.trans (congrArg some (by kernel_rfl))
  f49 := ⟨Tryz.f130.name, by decide, Tryz.func130.trans (congrArg some (by kernel_rfl))⟩
  f50 := ⟨Tryz.f131.name, by decide, Tryz.func131.trans (congrArg some (by kernel_rfl))⟩
  f57 := ⟨Tryz.f132.name, by decide, Tryz.func132.trans (congrArg some (by kernel_rfl))⟩
  t0 := Tryz.underlying0
  a0 := Tryz.isAgg0
  z0 := Tryz.sizeOf0
  v0 := Tryz.zeroValue0
  t3 := Tryz.underlying3
  a3 := Tryz.isAgg3
  z3 := Tryz.sizeOf3
  v3 := Tryz.zeroValue3
  t4 := Tryz.underlying4
  a4 := Tryz.isAgg4
  z4 := Tryz.sizeOf4
  v4 := Tryz.zeroValue4
  t5 := Tryz.underlying5
  a5 := Tryz.isAgg5
  z5 := Tryz.sizeOf5
  v5 := Tryz.zeroValue5
  t9 := Tryz.underlying9
  a9 := Tryz.isAgg9
  z9 := Tryz.sizeOf9
  v9 := Tryz.zeroValue9
  t22 := Tryz.underlying31
  a22 := Tryz.isAgg31
  z22 := Tryz.sizeOf31
  v22 := Tryz.zeroValue31
  t25 := Tryz.underlying106
  a25 := Tryz.isAgg106
  z25 := Tryz.sizeOf106
  v25 := Tryz.zeroValue106
  t39 := Tryz.underlying147
  a39 := Tryz.isAgg147
  z39 := Tryz.sizeOf147
  v39 := Tryz.zeroValue147
  t45 := Tryz.underlying151
  a45 := Tryz.isAgg151
  z45 := Tryz.sizeOf151
  v45 := Tryz.zeroValue151
  t46 := Tryz.underlying152
  a46 := Tryz.isAgg152
  z46 := Tryz.sizeOf152
  v46 := Tryz.zeroValue152
  t50 := Tryz.underlying156
  a50 := Tryz.isAgg156
  z50 := Tryz.sizeOf156
  v50 := Tryz.zeroValue156
  t53 := Tryz.underlying159
  a53 := Tryz.isAgg159
  z53 := Tryz.sizeOf159
  v53 := Tryz.zeroValue159
  t55 := Tryz.underlying161
  a55 := Tryz.isAgg161
  z55 := Tryz.sizeOf161
  v55 := Tryz.zeroValue161
  t66 := Tryz.underlying164
  a66 := Tryz.isAgg164
  z66 := Tryz.sizeOf164
  v66 := Tryz.zeroValue164
  t70 := Tryz.underlying168
  a70 := Tryz.isAgg168
  z70 := Tryz.sizeOf168
  v70 := Tryz.zeroValue168
  t76 := Tryz.underlying170
  a76 := Tryz.isAgg170
  z76 := Tryz.sizeOf170
  v76 := Tryz.zeroValue170
  t77 := Tryz.underlying171
  a77 := Tryz.isAgg171
  z77 := Tryz.sizeOf171
  v77 := Tryz.zeroValue171 }
open Go.RowKit Go.Lib in
/-- slices.SortFunc at no element. -/
theorem Tryz.slices_SortFunc_none (p : Option Addr) (cap : Nat) (fv : Value) (w : World) :
    Calls Tryz.prog 98 #[.slice p 0 cap, fv] w fun e w' => e = .returned (.tuple #[]) ∧ w' = w := AnyF.slices_SortFunc_none Tryz.laysSort p cap fv w
end Go.Proofs

namespace Go.Proofs.YtnficndeblkjhaaGreatDoor
open Go.RowKit Go.Sort

def DrnF (w w' : World) : Prop := Below w.heap.size w w' ∧ w.drawn ≤ w'.drawn
theorem DrnF.refl (w : World) : DrnF w w := ⟨Below.refl _ _, Nat.le_refl _⟩
theorem DrnF.trans {a b c : World} (h : DrnF a b) (k : DrnF b c) : DrnF a c := ⟨h.1.trans (k.1.mono h.1.size), Nat.le_trans h.2 k.2⟩
theorem DrnF.box (w : World) (o : Obj) : DrnF w (w.alloc o) := ⟨below_box (Below.refl _ _), Nat.le_refl _⟩
theorem DrnF.box2 (w : World) (o o' : Obj) : DrnF w ((w.alloc o).alloc o') := (DrnF.box w o).trans (DrnF.box _ o')
theorem DrnF.grown {w w' : World} (h : DrnF w w') : ∃ q os, w' = grow (w.drewN q) os := by
  obtain ⟨⟨d, os⟩, e⟩ := regrown_of_below h.1
  have h2 : w'.drawn = d := by rw [e]; rfl
  have h3 := h.2
  rw [h2] at h3
  refine ⟨d - w.drawn, os, ?_⟩
  rw [e]
  have e2 : redrawn w d = w.drewN (d - w.drawn) := by
    unfold redrawn World.drewN
    congr 1
    omega
  show grow (redrawn w d) os = _
  rw [e2]
theorem extract_allF {α : Type} (d : Array α) {n : Nat} (h : d.size = n) : d.extract 0 n = d := by
  subst h
  simp
def al0 : Al15 := ⟨lf0, none, 0⟩
/-- The leaf at a place. -/
def aAt (M : List Al15) (i : Nat) : Al15 := M.getD i al0
theorem aAt_eq {M : List Al15} {i : Nat} (h : i < M.length) : aAt M i = M[i] := by
  unfold aAt
  rw [List.getD_eq_getElem?_getD, List.getElem?_eq_getElem h]
  rfl
/-- A leaf by its place in a list. -/
def encF (L : List Al15) {n : Nat} (i : Fin n) : List Value := alf (aAt L i.1)
noncomputable def cfF (L : List Al15) {n : Nat} (i j : Fin n) : Int := cmpW (aAt L i.1).t.n (aAt L i.1).t.p (aAt L j.1).t.n (aAt L j.1).t.p
theorem ltF {L : List Al15} {n : Nat} (i j : Fin n) : ltOf (cfF L) i j = true ↔ LtL (aAt L i.1).t (aAt L j.1).t := by
  show decide (cfF L i j < 0) = true ↔ _
  rw [decide_eq_true_eq]
  exact cmpW_neg
theorem swoF {L : List Al15} {n : Nat} : SWO (ltOf (cfF L (n := n))) where
  irrefl x := by
    cases h : ltOf (cfF L) x x with
    | false => rfl
    | true => rw [ltF] at h; exact absurd h (ltP_irrefl _ _)
  trans x y z h1 h2 := by
    rw [ltF] at *
    exact ltP_trans h1 h2
  ntrans x y z h1 h2 := by
    have n1 : ¬ ltOf (cfF L) x y = true := by rw [h1]; simp
    have n2 : ¬ ltOf (cfF L) y z = true := by rw [h2]; simp
    cases h : ltOf (cfF L) x z with
    | false => rfl
    | true =>
      rw [ltF] at h n1 n2
      rcases ltP_co (m := (aAt L y.1).t.n) (q := (aAt L y.1).t.p) h with g | g
      · exact absurd g n1
      · exact absurd g n2
theorem sort_belowF {L : List Al15} {n base blk off m : Nat} [Inhabited (Fin n)] {w : World} {d : Array (Fin n)} {os : Array Obj} (hb : base ≤ blk) (hl : blk < w.heap.size) : Below base w (sortWorldK (encF L) 2 w blk off m d os) := by
  refine ⟨rfl, rfl, rfl, ?_, fun k hk => ?_⟩
  · simp [sortWorldK, putRowK, putRow, mapBlock, grow]
  · simp only [sortWorldK, putRowK, putRow, mapBlock, grow]
    rw [Array.getElem?_append_left (by simp; omega), Array.getElem?_modify, if_neg (by omega)]
    rfl
set_option maxRecDepth 100000 in
set_option maxHeartbeats 1600000 in
theorem i_orderD (a a' : Option Addr) (c c' : Nat) (s t : Lf) (w : World) (hn : s.n ≤ 1048576) (hR : RowStr a s.n s.p w) (hQ : RowStr a' t.n t.p w) :
    Calls Tryz.prog 87 #[.agg #[.slice a s.n c, .string s.v], .agg #[.slice a' t.n c', .string t.v]] w fun e w' => e = .returned (.int .i64 (cmpW s.n s.p t.n t.p)) ∧ DrnF w w' := by
  have C := hide (fun w R Q => i_cmpP a a' s.n t.n c c' s.p t.p w hn R Q)
  generalize cmpW s.n s.p t.n t.p = r at *
  have e0 := hide (DrnF.box2 w (.cells #[.slice a s.n c, .string s.v] 87) (.cells #[.slice a' t.n c', .string t.v] 87))
  have hR := hR.below e0.out.1
  have hQ := hQ.below e0.out.1
  obtain ⟨sn, sp, sv⟩ := s
  obtain ⟨tn, tp, tv⟩ := t
  dsimp only at *
  go_enter Tryz.func87, Tryz.ntmps87
  go_wp2_with fail
  refine (C.out _ hR hQ).mono ?_
  rintro e w1 ⟨rfl, rfl⟩
  go_wp2_with fail
  go_ret
  exact ⟨rfl, e0.out⟩
set_option maxRecDepth 100000 in
theorem i_sortF (g cap : Nat) (L : List Al15) (w0 w : World) (hb : w0.heap.size ≤ g) (hB : Below w0.heap.size w0 w) (hlen : L.length ≤ 1048576) (h0 : 0 < L.length) (ho : AlF w0.heap.size (.slice (some ⟨g, 0, none⟩) L.length cap) L w0 w) (hgl : g < w.heap.size) (hn : ∀ e, e ∈ L → e.t.n ≤ 1048576) :
    Calls Tryz.prog 98 #[.slice (some ⟨g, 0, none⟩) L.length cap, .func (.func 87) #[] #[]] w fun e w' =>
      e = .returned (.tuple #[]) ∧ ∃ S : List Al15, S.Perm L ∧ S.Pairwise (fun a b => ¬ LtL b.t a.t) ∧ S.length = L.length ∧ RowW (some ⟨g, 0, none⟩) (afs S) w' ∧ Below w0.heap.size w w' := by
  haveI : Inhabited (Fin L.length) := ⟨⟨0, h0⟩⟩
  obtain ⟨d, hd0⟩ : ∃ d : Array (Fin L.length), d = Array.ofFn (fun i => i) := ⟨_, rfl⟩
  have hds : d.size = L.length := by rw [hd0]; simp
  have hdi : ∀ i (hi : i < L.length), d[i]! = ⟨i, hi⟩ := by
    intro i hi
    rw [getElem!_pos d i (by omega)]
    simp [hd0]
  have hdl : d.toList.map (fun i => aAt L i.1) = L := by
    apply List.ext_getElem
    · simp [hds]
    · intro i h1 h2
      simp only [List.getElem_map, Array.getElem_toList]
      have := hdi i h2
      rw [getElem!_pos d i (by omega)] at this
      rw [this, aAt_eq h2]
  obtain ⟨a9, cap9, hv9, hr9, hc9⟩ := ownW_row ho.1
  simp only [Value.slice.injEq, true_and] at hv9
  obtain ⟨rfl, rfl⟩ := hv9
  have hfz : ∀ j, w.frozen? ⟨g, j, none⟩ = false := by
    rcases hc9 with ⟨h, _⟩ | ⟨g', hg', _, _, _, hf⟩
    · cases h
    · simp only [Option.some.injEq, Addr.mk.injEq, and_true] at hg'
      obtain ⟨rfl, _⟩ := hg'
      exact hf
  have hcell : ∀ j u, (afs L)[j]? = some u → w.cell? ⟨g, j, none⟩ = some u := by
    intro j u hu
    obtain ⟨b', o', he, _, c0⟩ := hr9 j u hu
    simp only [Option.some.injEq, Addr.mk.injEq, and_true] at he
    obtain ⟨rfl, rfl⟩ := he
    rw [Nat.zero_add] at c0
    exact c0
  have hH : HoldsK (encF L) 2 w g 0 d := by
    intro j hj
    simp only [size_flatK] at hj
    have hi : j / 2 < L.length := by omega
    obtain ⟨e1, e2⟩ := afs_at hi
    refine ⟨?_, hfz _⟩
    rw [get_flatK (encF L) 2 d j hj, hdi _ hi, Nat.zero_add]
    unfold encF
    rw [aAt_eq hi]
    rcases (show j = j / 2 * 2 ∧ j % 2 = 0 ∨ j = j / 2 * 2 + 1 ∧ j % 2 = 1 by omega) with ⟨e, em⟩ | ⟨e, em⟩
    · rw [em]; rw [← e] at e1; exact hcell _ _ e1
    · rw [em]; rw [← e] at e2; exact hcell _ _ e2
  have eg : ∀ args w, (callFunc 87 args).run Tryz.prog w = .ok (.enter 87 args) w := Go.Proofs.enters_of Tryz.func87 (by kernel_rfl) rfl
  have hrow : ∀ i : Fin L.length, RowStr (aAt L i.1).a (aAt L i.1).t.n (aAt L i.1).t.p w0 ∧ (aAt L i.1).t.n ≤ 1048576 := by
    intro i
    rw [aAt_eq i.2]
    exact ⟨(ho.2 _ (List.getElem_mem i.2)).2, hn _ (List.getElem_mem i.2)⟩
  have hcmp : CmpLays Tryz.prog 87 #[] (encF L (n := L.length)) 2 (cfF L (n := L.length)) g 0 d.size w := fun m os dk _ x y => by
    have hBB : Below w0.heap.size w0 (sortWorldK (encF L) 2 w g 0 m dk os) := hB.trans (sort_belowF hb hgl)
    exact (i_orderD (aAt L x.1).a (aAt L y.1).a (aAt L x.1).k (aAt L y.1).k (aAt L x.1).t (aAt L y.1).t _ (hrow x).2 ((hrow x).1.below hBB) ((hrow y).1.below hBB)).mono fun e w' h => ⟨h.1, h.2.grown⟩
  have hcon := AnyQ.slices_SortFunc Tryz.laysSort 2 Tryz.isAgg87 Tryz.sizeOf87 (encF L (n := L.length)) (fun _ => rfl) (fun x v hv => by simp [encF, alf] at hv; rcases hv with rfl | rfl <;> rfl) (cfF L (n := L.length)) swoF 87 #[] g 0 cap d w eg hcmp hH hgl (by omega)
  rw [hds] at hcon
  refine Calls.mono hcon ?_
  rintro e w' ⟨he, d', m, os, hp, hs, rfl⟩
  have hsz : d'.size = d.size := hp.1
  refine ⟨he, d'.toList.map (fun i => aAt L i.1), ?_, ?_, ?_, ?_, sort_belowF hb hgl⟩
  · have h1 := hp.2.2
    have e1 : d'.extract 0 L.length = d' := extract_allF d' (hsz.trans hds)
    have e2 : d.extract 0 L.length = d := extract_allF d hds
    rw [e1, e2] at h1
    have h2 := h1.map (fun i => aAt L i.1)
    rw [hdl] at h2
    exact h2
  · rw [List.pairwise_map, List.pairwise_iff_getElem]
    intro i j hi hj hij hlt
    have h1 := hs i j (Nat.zero_le _) hij (by simp at hj; omega)
    rw [getElem!_pos d' i (by simpa using hi), getElem!_pos d' j (by simpa using hj)] at h1
    have h2 : ltOf (cfF L) d'[j] d'[i] = true := ltF _ _ |>.2 (by simpa using hlt)
    rw [h2] at h1
    cases h1
  · simp
    omega
  · have hsw : SWK (encF L) 2 w g 0 d' (sortWorldK (encF L) 2 w g 0 m d' os) := ⟨m, os, rfl⟩
    have hh := hsw.holds hgl hH hsz
    intro j u hu
    have hml : (d'.toList.map (fun i => aAt L i.1)).length = d'.size := by simp
    have hjl : j < d'.size * 2 := by
      have h1 := (List.getElem?_eq_some_iff.1 hu).1
      have h2 : ∀ M : List Al15, (afs M).length = M.length * 2 := by
        intro M
        induction M with
        | nil => rfl
        | cons x M ih => simp [afs, alf, ih]; omega
      rw [h2, hml] at h1
      exact h1
    have hi' : j / 2 < d'.size := by omega
    have hi : j / 2 < (d'.toList.map (fun i => aAt L i.1)).length := by omega
    obtain ⟨e1, e2⟩ := afs_at hi
    have c0 := (hh j (by simp only [size_flatK]; omega)).1
    rw [get_flatK (encF L) 2 d' _ (by omega), Nat.zero_add] at c0
    have e0 : (d'.toList.map (fun i => aAt L i.1))[j / 2] = aAt L (d'[j / 2]!).1 := by
      simp only [List.getElem_map, Array.getElem_toList]
      rw [getElem!_pos d' (j / 2) hi']
    rw [e0] at e1 e2
    refine ⟨g, 0, rfl, hsw.lt hgl, ?_⟩
    rw [Nat.zero_add]
    rcases (show j = j / 2 * 2 ∧ j % 2 = 0 ∨ j = j / 2 * 2 + 1 ∧ j % 2 = 1 by omega) with ⟨e, em⟩ | ⟨e, em⟩
    · rw [em] at c0
      rw [← e, hu] at e1
      rw [e1]
      exact c0
    · rw [em] at c0
      rw [← e, hu] at e2
      rw [e2]
      exact c0
end Go.Proofs.YtnficndeblkjhaaGreatDoor
