/- An op done by the specification, not well told. -/
import Derived.Test.YtnficndeblkjhaaGreatDoorGrp13
import Derived.Test.YtnficndeblkjhaaGreatDoorS16a
import Derived.Test.YtnficndeblkjhaaGreatDoorS16e
import Derived.Test.YtnficndeblkjhaaGreatDoorGrp5
import Derived.Test.YtnficndeblkjhaaGreatDoorS16g
import Derived.Test.YtnficndeblkjhaaGreatDoorGrp7
/- What runs is confirmed: the specification. -/
namespace Go.Proofs.YtnficndeblkjhaaGreatDoor
open Go.RowKit

theorem ownW_one16 (e : TypeId) (w : World) (v : Value) {base : Nat} (hb : base ≤ w.heap.size) : OwnW e 1 base (.slice (some ⟨w.heap.size, 0, none⟩) 1 1) 1 [v] (w.alloc (.cells #[v] e)) :=
  ⟨rfl, .inr ⟨w.heap.size, 1, #[v], rfl, hb, by show (w.heap.push _)[w.heap.size]? = _; simp, Nat.le_refl _, by decide, rfl, rfl⟩⟩
/-- The heads of a list ahead of the lists: the first m. -/
theorem rowW_cons {g cap m h : Nat} {va : Option Addr} {vc : Nat} {R : Cf} {H : Nat → Cf} {a : Nat → Option Addr} {c : Nat → Nat} {X : World} {base : Nat} (own : OwnW 31 1 base (.slice (some ⟨g, 0, none⟩) (1 + h) cap) (1 + h) ([.slice va R.n vc] ++ hdX h H a c) X) (hm : m ≤ 1 + h) :
    RowW (some ⟨g, 0, none⟩) (hdX m (fun i => if i = 0 then R else H (i - 1)) (fun i => if i = 0 then va else a (i - 1)) (fun i => if i = 0 then vc else c (i - 1))) X := by
  obtain ⟨a', cap', hv, hr, _⟩ := ownW_row own
  simp only [Value.slice.injEq, true_and] at hv
  obtain ⟨rfl, rfl⟩ := hv
  intro j u hu
  have hj : j < m := by
    obtain ⟨hl, _⟩ := List.getElem?_eq_some_iff.1 hu
    rwa [hdX_len] at hl
  rw [hdX_at hj] at hu
  obtain rfl := Option.some.inj hu
  refine hr j _ ?_
  by_cases e : j = 0
  · subst e
    rfl
  · have e1 : ([Value.slice va R.n vc] : List Value).length = 1 := rfl
    rw [List.getElem?_append_right (by rw [e1]; omega), e1]
    simp only [if_neg e]
    exact hdX_at (by omega)
set_option maxRecDepth 100000 in
set_option maxHeartbeats 3200000 in
theorem s_l16Confirm (P : Nat → Prop) (v : Value) (s : Sto) (w : World) (hP : ∀ k, P k → k < w.heap.size) (hS : StF P v s w) (hs : OkS s) :
    Calls Tryz.prog 57 #[v] w fun e w' => ∃ v', e = .returned v' ∧ StF P v' (conS s) w' ∧ Below w.heap.size w w' := by
  obtain ⟨ca, kc, ra, kr, ha, kh, a, c, rfl, hkh, hS⟩ := hS
  obtain ⟨R1, R2, R3, R4⟩ := hS.here
  obtain ⟨o1, o2, o3, o4, o5, _, _⟩ := hs
  obtain ⟨bh, oh, hva, hbw, u0⟩ := R3 0 _ (hdX_at (by omega))
  subst hva
  rw [Nat.add_zero] at u0
  unfold stV
  have M1 := (Mut.new w #[.slice ca s.C.n kc, .slice ra s.R.n kr, .slice (some ⟨bh, oh, none⟩) s.h kh, .int .i64 0] 34).alloc (.cells #[.slice none 0 0, .slice none 0 0, .slice none 0 0, .int .i64 0] 34)
  have M2 := Mut.new (w.alloc (.cells #[.slice ca s.C.n kc, .slice ra s.R.n kr, .slice (some ⟨bh, oh, none⟩) s.h kh, .int .i64 0] 34)) #[.slice none 0 0, .slice none 0 0, .slice none 0 0, .int .i64 0] 34
  have d1 : Below w.heap.size w ((w.alloc (.cells #[.slice ca s.C.n kc, .slice ra s.R.n kr, .slice (some ⟨bh, oh, none⟩) s.h kh, .int .i64 0] 34)).alloc (.cells #[.slice none 0 0, .slice none 0 0, .slice none 0 0, .int .i64 0] 34)) := below_box2 (Below.refl _ _)
  simp only [World.size_alloc] at M2
  have SM := hide (fun W R Q => s_l16Same ra s.R kr (a 0) (s.H 0) (c 0) W o2.low.1 o2.low.2 (o5 0 o3).low.1 R Q)
  have OW := hide (fun W R => s_ownAns s.R o2.own ra kr W R)
  have hY : Hid (SameC s.R (s.H 0) → conS s = ⟨s.C, s.R, s.h, s.H, 0⟩) := fun h => if_pos (tB_t h)
  have hZ : Hid (¬ SameC s.R (s.H 0) → conS s = ⟨s.C, s.R, min (s.h + 1) 10, fun i => if i = 0 then s.R else s.H (i - 1), 0⟩) := fun h => if_neg (by simp [tB_f h])
  generalize conS s = GA at *
  replace u0 := ((bcell d1).1 _ _ hbw).trans u0
  have RR := hide (R2.below d1)
  have R5 := hide ((R4 0 (by omega)).below d1)
  have hh := hide o3
  go_enter Tryz.func57, Tryz.ntmps57
  go_wp2_with fail
  generalize ((w.alloc (.cells #[.slice ca s.C.n kc, .slice ra s.R.n kr, .slice (some ⟨bh, oh, none⟩) s.h kh, .int .i64 0] 34)).alloc (.cells #[.slice none 0 0, .slice none 0 0, .slice none 0 0, .int .i64 0] 34)) = wa at *
  replace u0 := cell_regrown u0
  have k1 := cell_regrown (M1.2.1 1 _ rfl)
  have k2 := cell_regrown (M1.2.1 2 _ rfl)
  have h1 : (0 : Int) < (s.h : Int) := by omega
  clear o3 hh
  refine wp_region_quiet_below (by kernel_rfl) (by kernel_rfl) ?_
  repeat (first | go_big_quiet_step (((go_at_call 52; exact Calls.regrown_of (SM.out _ (RR.out.any.below (below_regrown _ _ _)) (R5.out.any.below (below_regrown _ _ _)))))) | quiet_step (((go_at_call 52; exact Calls.regrown_of (SM.out _ (RR.out.any.below (below_regrown _ _ _)) (R5.out.any.below (below_regrown _ _ _)))))))
  refine wpQuiet_nil ?_
  intro _ hw'
  obtain ⟨⟨dq, osq⟩, hw''⟩ := hw'
  subst hw''
  have hq := below_regrown wa dq osq
  generalize Go.Sort.grow (redrawn wa dq) osq = wq at hq ⊢
  replace M1 := M1.below hq
  replace M2 := M2.below hq
  have d2 := d1.trans (hq.mono d1.size)
  have hw1 : w.heap.size + 1 < wq.heap.size := M2.1
  clear hq u0 k1 k2 RR R5 SM d1
  have v0 := M1.2.1 0 _ rfl
  have v1 := M1.2.1 1 _ rfl
  have v2 := M1.2.1 2 _ rfl
  have v3 := M1.2.1 3 _ rfl
  have f2 := M1.2.2 2 (by simp)
  by_cases hsm : SameC s.R (s.H 0)
  · rw [tB_t hsm]
    have hE := hide (hY.out hsm)
    clear hY hZ
    go_wp2_with (refine wpList_storeM (us := [.slice ca s.C.n kc, .slice ra s.R.n kr, .slice (some ⟨bh, oh, none⟩) s.h kh, .int .i64 0]) rfl rfl rfl rfl M2 rfl (by intro v hv; simp only [List.mem_cons, List.not_mem_nil, or_false] at hv; rcases hv with rfl | rfl | rfl | rfl <;> rfl) sizeSto ?_; intro w9 M9 o9)
    have on := OnlyP.of_only (P := fun x => x = w.heap.size + 1) o9 rfl
    have e9 := (d2).trans (on.below (base := w.heap.size) (fun x _ hx => by have h : x = w.heap.size + 1 := hx; omega) (d2).size)
    have r0 := M9.2.1 0 _ rfl
    have r1 := M9.2.1 1 _ rfl
    have r2 := M9.2.1 2 _ rfl
    have r3 := M9.2.1 3 _ rfl
    exact bodyPost_ret (v := .agg #[.slice ca s.C.n kc, .slice ra s.R.n kr, .slice (some ⟨bh, oh, none⟩) s.h kh, .int .i64 0]) (by simp [results, Tryz.results57, go_sem, r0, r1, r2, r3]) rfl (⟨_, rfl, by rw [hE.out]; exact ⟨ca, kc, ra, kr, _, kh, a, c, rfl, hkh, hS.below e9⟩, e9⟩)
  rw [tB_f hsm]
  have hE := hide (hZ.out hsm)
  clear hY hZ
  have R2q := (R2.below d2).any
  have hdl := hdX_len s.h s.H a c
  have W3 := hide (fun W k => R3.below (w' := W) k)
  go_wp2_with fail
  refine (OW.out _ R2q).mono ?_
  rintro e w2 ⟨va, vc, rfl, hA, bb⟩
  replace M1 := M1.below bb
  replace M2 := M2.below bb
  have d3 := d2.trans (bb.mono d2.size)
  have hq2 : wq.heap.size ≤ w2.heap.size := bb.size
  clear bb OW d2 v0 v1 v2 v3 f2 R2q
  have own1 := ownW_one16 31 w2 (.slice va s.R.n vc) (Nat.le_refl _)
  have b3 : Below w2.heap.size w2 (w2.alloc (.cells #[.slice va s.R.n vc] 31)) := below_box (Below.refl _ _)
  replace M1 := M1.below b3
  replace M2 := M2.below b3
  have d4 := d3.trans (b3.mono d3.size)
  have v0 := M1.2.1 0 _ rfl
  have v1 := M1.2.1 1 _ rfl
  have v2 := M1.2.1 2 _ rfl
  have v3 := M1.2.1 3 _ rfl
  have RW1 := R3.below (d4)
  have hq3 : w2.heap.size ≤ (w2.alloc (.cells #[.slice va s.R.n vc] 31)).heap.size := b3.size
  have hA1 := hA.below b3
  go_wp2_with (first | (at_builtin; refine wpList_appW leafST rfl _ _ rfl w2.heap.size _ 1 [.slice va s.R.n vc] rfl own1 bh oh s.h kh (hdX s.h s.H a c) rfl (by rw [hdl]; omega) RW1 (hdX_one _ _ _ _) (by omega) (by decide) hq3 ?_))
  intro v' w5 own hb5 _ _
  have o5' := hb5
  replace M1 := M1.base (by omega) hb5
  replace M2 := M2.base (by omega) hb5
  have d5 := d4.trans (hb5.mono (by omega))
  have hA5 := hA.below (b3.trans hb5)
  obtain ⟨an, cn, hvn, _, hcn⟩ := ownW_row own
  subst hvn
  rcases hcn with ⟨_, _, hn0⟩ | ⟨g, rfl, hgb, _, hgc, _⟩
  · omega
  clear v0 v1 v2 v3 hA hA1 own1 b3 hb5 o5' RW1 d4 d3
  have v0 := M1.2.1 0 _ rfl
  have v1 := M1.2.1 1 _ rfl
  have v2 := M1.2.1 2 _ rfl
  have v3 := M1.2.1 3 _ rfl
  have f2 := M1.2.2 2 (by simp)
  have fin : ∀ (m : Nat) (w9 : World), min (s.h + 1) 10 = m → m ≤ cn → OnlyP (fun x => w.heap.size ≤ x ∧ x < w.heap.size + 2) w5 w9 → Below w.heap.size w w9 → StF P (.agg #[.slice ca s.C.n kc, .slice ra s.R.n kr, .slice (some ⟨g, 0, none⟩) m cn, .int .i64 0]) GA w9 := fun m w9 hm hmc on e9 => by
    rw [hE.out, hm]
    refine ⟨ca, kc, ra, kr, some ⟨g, 0, none⟩, cn, fun i => if i = 0 then va else a (i - 1), fun i => if i = 0 then vc else c (i - 1), rfl, hmc, fun X oX => ?_⟩
    obtain ⟨x1, x2, x3, x4⟩ := hS X ((OnlyP.of_below e9).trans oX)
    have own9 := ownW_onlyP own on (fun k hk h => by have h1 := (ownW_lt own hk).1; omega)
    have ownX := ownW_onlyP own9 oX (fun k hk h => by have h1 := (ownW_lt own hk).1; have h2 := hP k h; omega)
    have hA9 := hA5.onlyP on (fun k hk h => by omega)
    have hAX := hA9.onlyP oX (fun k hk h => by have h2 := hP k h; omega)
    refine ⟨x1, x2, rowW_cons ownX (show m ≤ 1 + s.h by omega), fun i hi => ?_⟩
    have hi : i < m := hi
    by_cases e : i = 0
    · subst e
      exact hAX.1
    · simp only [if_neg e]
      exact x4 (i - 1) (by omega)
  obtain ⟨n1, hn1⟩ : ∃ n1, n1 = 1 + s.h := ⟨_, rfl⟩
  rw [← hn1]
  rw [← hn1] at hgc
  have hq1 : n1 ≤ 11 := by omega
  replace hn1 := hide hn1
  clear own
  by_cases h10 : n1 ≤ 10
  · have fin := hide (fun w9 on e9 => fin n1 w9 (by have := hn1.out; omega) hgc on e9)
    have hh : ¬ (n1 : Int) > 10 := by omega
    go_wp2_with (refine wpList_storeM (us := [.slice ca s.C.n kc, .slice ra s.R.n kr, .slice (some ⟨g, 0, none⟩) n1 cn, .int .i64 0]) rfl rfl rfl rfl (M2.other (c := w.heap.size) (by omega) 2 (.slice (some ⟨g, 0, none⟩) n1 cn)) rfl (by intro v hv; simp only [List.mem_cons, List.not_mem_nil, or_false] at hv; rcases hv with rfl | rfl | rfl | rfl <;> rfl) sizeSto ?_; intro w9 M9 o9)
    have on1 : OnlyP (fun x => w.heap.size ≤ x ∧ x < w.heap.size + 2) w5 (w5.setCell ⟨w.heap.size, 2, none⟩ (.slice (some ⟨g, 0, none⟩) n1 cn)) := (OnlyP.refl _ w5).set15 ⟨Nat.le_refl _, by omega⟩ _ _
    have on2 := on1.trans (OnlyP.of_only (P := fun x => w.heap.size ≤ x ∧ x < w.heap.size + 2) o9 ⟨by omega, by omega⟩)
    have e9 : Below w.heap.size w w9 := d5.trans (on2.below (fun _ _ hk => hk.1) d5.size)
    have r0 := M9.2.1 0 _ rfl
    have r1 := M9.2.1 1 _ rfl
    have r2 := M9.2.1 2 _ rfl
    have r3 := M9.2.1 3 _ rfl
    exact bodyPost_ret (v := .agg #[.slice ca s.C.n kc, .slice ra s.R.n kr, .slice (some ⟨g, 0, none⟩) n1 cn, .int .i64 0]) (by simp [results, Tryz.results57, go_sem, r0, r1, r2, r3]) rfl ⟨_, rfl, fin.out _ on2 e9, e9⟩
  · have fin := hide (fun w9 on e9 => fin 10 w9 (by have := hn1.out; omega) (by omega) on e9)
    have hh : (n1 : Int) > 10 := by omega
    go_wp2_with (refine wpList_storeM (us := [.slice ca s.C.n kc, .slice ra s.R.n kr, .slice (some ⟨g, 0, none⟩) 10 cn, .int .i64 0]) rfl rfl rfl rfl (M2.other (c := w.heap.size) (by omega) 2 (.slice (some ⟨g, 0, none⟩) 10 cn)) rfl (by intro v hv; simp only [List.mem_cons, List.not_mem_nil, or_false] at hv; rcases hv with rfl | rfl | rfl | rfl <;> rfl) sizeSto ?_; intro w9 M9 o9)
    have on1 : OnlyP (fun x => w.heap.size ≤ x ∧ x < w.heap.size + 2) w5 (w5.setCell ⟨w.heap.size, 2, none⟩ (.slice (some ⟨g, 0, none⟩) 10 cn)) := (OnlyP.refl _ w5).set15 ⟨Nat.le_refl _, by omega⟩ _ _
    have on2 := on1.trans (OnlyP.of_only (P := fun x => w.heap.size ≤ x ∧ x < w.heap.size + 2) o9 ⟨by omega, by omega⟩)
    have e9 : Below w.heap.size w w9 := d5.trans (on2.below (fun _ _ hk => hk.1) d5.size)
    have r0 := M9.2.1 0 _ rfl
    have r1 := M9.2.1 1 _ rfl
    have r2 := M9.2.1 2 _ rfl
    have r3 := M9.2.1 3 _ rfl
    exact bodyPost_ret (v := .agg #[.slice ca s.C.n kc, .slice ra s.R.n kr, .slice (some ⟨g, 0, none⟩) 10 cn, .int .i64 0]) (by simp [results, Tryz.results57, go_sem, r0, r1, r2, r3]) rfl ⟨_, rfl, fin.out _ on2 e9, e9⟩
end Go.Proofs.YtnficndeblkjhaaGreatDoor

/- An op done by the specification: what its kinds have in common. -/
namespace Go.Proofs.YtnficndeblkjhaaGreatDoor
open Go.RowKit

/-- What an op answers: the store and whether it was done. -/
def SteP (P : Nat → Prop) (r : Sto × Bool) (w : World) (e : Ending) (w' : World) : Prop := Below w.heap.size w w' ∧ ∃ v, e = .returned (.tuple #[v, .bool r.2]) ∧ (∃ ca cn kc ra rn kr ha hn kh l, v = .agg #[.slice ca cn kc, .slice ra rn kr, .slice ha hn kh, .int .i64 l]) ∧ (r.2 = true → StF P v r.1 w')
/-- Blocks that may be written into: those of before, and the boxes of the call. -/
def BxP (P : Nat → Prop) (w : World) (k : Nat) : Prop := P k ∨ (w.heap.size ≤ k ∧ k < w.heap.size + 3)
theorem bx_lt {P : Nat → Prop} {w : World} (hP : ∀ k, P k → k < w.heap.size) {k : Nat} (h : BxP P w k) : k < w.heap.size + 3 := by
  rcases h with h | h
  · have := hP k h; omega
  · exact h.2
theorem StP.of_stb {P : Nat → Prop} {base : Nat} {R : World → Prop} {w : World} (h : Stb 0 base R w) (k : ∀ x, P x → x < base) : StP P R w := fun X on => h X (on.mono (fun x _ hx => ⟨Nat.zero_le _, k x hx⟩))
theorem AnsF.stP {P : Nat → Prop} {va : Option Addr} {N : Nat} {T : Nat → Lf} {lo hi : Nat} {w : World} (h : AnsF va N T (fun k => lo ≤ k ∧ k < hi) w) (k : ∀ x, P x → x < lo) : StP P (RowF true va N T) w := fun X on => (h.onlyP on (fun x hx q => by have := k x q; omega)).1
theorem set_no {N : Nat} {T : Nat → Lf} {n : Nat} {p : Nat → ByteArray} {v : ByteArray} (h : ¬ (Pw n p ∧ Wd v)) : (setA N T n p v).2 = false := by
  unfold setA
  rw [if_neg (by simp only [Bool.not_eq_true]; exact tB_f (fun q => h ⟨q.2.1, q.2.2.1⟩))]
theorem del_no {N : Nat} {T : Nat → Lf} {n : Nat} {p : Nat → ByteArray} (h : ¬ Pw n p) : (delA N T n p).2 = false := by
  unfold delA
  rw [if_neg (by simp only [Bool.not_eq_true]; exact tB_f (fun q => h q.2.1))]
theorem well_need {o : OpX} (h : WellX o) : NeedX o := by
  rcases h with h | h | h | h | h
  · exact .inl ⟨h.1, h.2.1⟩
  · exact .inr (.inl ⟨h.1, h.2.2.2, h.2.1⟩)
  · exact .inr (.inr ⟨by omega, by omega, h.2.1, .inl h.1⟩)
  · exact .inr (.inr ⟨by omega, by omega, h.2.1, .inr (.inl h.1)⟩)
  · exact .inr (.inr ⟨by omega, by omega, h.2.1, .inr (.inr h.2.2)⟩)
/-- What the specification refuses is not done. -/
theorem step_bad {s : Sto} {o : OpX} (hs : OkS s) (h : ¬ WellX o) : (stepX s o).2 = false := by
  by_cases hn : NeedX o
  · rw [stepX_yes hn]
    rcases hn with q | q | q
    · rw [opX_1 q.1, set_no (fun t => h ((well1 q.1).2 ⟨q.2, t⟩))]
      rfl
    · rw [opX_2 q.1, del_no (fun t => h ((well2 q.1).2 ⟨q.2.2, t, q.2.1⟩))]
      rfl
    · obtain ⟨q1, q2, q3, q4⟩ := q
      by_cases k4 : o.k = 4
      · rw [opX_4 k4, if_neg (fun t => h ((well4 k4).2 ⟨q3, t⟩))]
      by_cases k6 : o.k = 6
      · rw [opX_6 k6, if_neg (fun t => h ((well6 k6).2 ⟨q3, t.1, by have := hs.2.2.2.1; omega⟩))]
      have hN : o.N = 0 := by omega
      by_cases k3 : o.k = 3 ∨ o.k = 5 ∨ o.k = 7 ∨ o.k = 8
      · exact absurd ((well3 k3).2 ⟨q3, hN⟩) h
      · rw [opX_9 (by omega)]
  · rw [stepX_no hn]
end Go.Proofs.YtnficndeblkjhaaGreatDoor

namespace Go.Proofs.YtnficndeblkjhaaGreatDoor
open Go.RowKit

set_option maxRecDepth 100000 in
set_option maxHeartbeats 1600000 in
theorem s_step0 (P : Nat → Prop) (v : Value) (s : Sto) (o : OpX) (pa : Option Addr) (pc : Nat) (w : World) (hP : ∀ k, P k → k < w.heap.size) (hS : StF P v s w) (hs : OkS s) (hn : o.n ≤ 1048576) (hp : ∀ i, i < o.n → (o.p i).size ≤ maxLen) (hv : o.v.size ≤ maxLen) (hQ : RowStr pa o.n o.p w) (hW : ¬ WellX o) :
    Calls Tryz.prog 29 #[v, .agg #[.int .i64 o.k, .slice pa o.n pc, .string o.v, .int .i64 o.N]] w (SteP P (stepX s o) w) := by
  have hr := hide (step_bad hs hW)
  obtain ⟨ca, kc, ra, kr, ha, kh, a, c, rfl, hkh, hS⟩ := hS
  unfold stV
  have M1 := ((Mut.new w #[.slice ca s.C.n kc, .slice ra s.R.n kr, .slice ha s.h kh, .int .i64 s.l] 34).alloc (.cells #[.int .i64 o.k, .slice pa o.n pc, .string o.v, .int .i64 o.N] 38)).alloc (.cells #[.slice none 0 0, .slice none 0 0, .slice none 0 0, .int .i64 0] 34)
  have MO := (Mut.new (w.alloc (.cells #[.slice ca s.C.n kc, .slice ra s.R.n kr, .slice ha s.h kh, .int .i64 s.l] 34)) #[.int .i64 o.k, .slice pa o.n pc, .string o.v, .int .i64 o.N] 38).alloc (.cells #[.slice none 0 0, .slice none 0 0, .slice none 0 0, .int .i64 0] 34)
  have M2 := Mut.new ((w.alloc (.cells #[.slice ca s.C.n kc, .slice ra s.R.n kr, .slice ha s.h kh, .int .i64 s.l] 34)).alloc (.cells #[.int .i64 o.k, .slice pa o.n pc, .string o.v, .int .i64 o.N] 38)) #[.slice none 0 0, .slice none 0 0, .slice none 0 0, .int .i64 0] 34
  have d1 : Below w.heap.size w (((w.alloc (.cells #[.slice ca s.C.n kc, .slice ra s.R.n kr, .slice ha s.h kh, .int .i64 s.l] 34)).alloc (.cells #[.int .i64 o.k, .slice pa o.n pc, .string o.v, .int .i64 o.N] 38)).alloc (.cells #[.slice none 0 0, .slice none 0 0, .slice none 0 0, .int .i64 0] 34)) := below_box3 (Below.refl _ _)
  simp only [World.size_alloc] at MO M2
  have HO := hide (fun W R => s_l16Op o pa pc W hn hp hv R)
  have hPx := hide (fun k => bx_lt (P := P) (w := w) hP (k := k))
  replace hP := hide hP
  have j0 := MO.2.1 0 _ rfl
  have j1 := MO.2.1 1 _ rfl
  have j2 := MO.2.1 2 _ rfl
  have j3 := MO.2.1 3 _ rfl
  go_enter Tryz.func29, Tryz.ntmps29
  go_wp2_with fail
  clear j0 j1 j2 j3
  generalize (((w.alloc (.cells #[.slice ca s.C.n kc, .slice ra s.R.n kr, .slice ha s.h kh, .int .i64 s.l] 34)).alloc (.cells #[.int .i64 o.k, .slice pa o.n pc, .string o.v, .int .i64 o.N] 38)).alloc (.cells #[.slice none 0 0, .slice none 0 0, .slice none 0 0, .int .i64 0] 34)) = wa at *
  refine (HO.out _ (hQ.below d1)).mono ?_
  rintro e w1 ⟨rfl, bb⟩
  replace M1 := M1.below bb
  replace MO := MO.below bb
  replace M2 := M2.below bb
  replace d1 := d1.trans (bb.mono d1.size)
  have hw2 : w.heap.size + 1 + 1 < w1.heap.size := M2.1
  clear bb HO
  replace hS : StP (BxP P w) (HasSt s ca ra ha a c) w1 := hS.more d1 (fun x hx hq => by rcases hq with hq | hq; exact hq; omega)
  have k0 := M1.2.1 0 _ rfl
  have k1 := M1.2.1 1 _ rfl
  have k2 := M1.2.1 2 _ rfl
  have k3 := M1.2.1 3 _ rfl
  have j0 := MO.2.1 0 _ rfl
  have j1 := MO.2.1 1 _ rfl
  have j2 := MO.2.1 2 _ rfl
  have j3 := MO.2.1 3 _ rfl
  have f0 := M1.2.2 0 (by simp)
  have f1 := M1.2.2 1 (by simp)
  have f3 := M1.2.2 3 (by simp)
  rw [tB_f hW]
  clear hW
  go_wp2_with (refine wpList_storeM (us := [.slice ca s.C.n kc, .slice ra s.R.n kr, .slice ha s.h kh, .int .i64 s.l]) rfl rfl rfl rfl M2 rfl (by intro v hv; simp only [List.mem_cons, List.not_mem_nil, or_false] at hv; rcases hv with rfl | rfl | rfl | rfl <;> rfl) sizeSto ?_; intro w9 M9 o9)
  have on := OnlyP.of_only (P := fun x => x = w.heap.size + 1 + 1) o9 rfl
  have e9 := (d1).trans (on.below (base := w.heap.size) (fun x _ hx => by have h : x = w.heap.size + 1 + 1 := hx; omega) (d1).size)
  have r0 := M9.2.1 0 _ rfl
  have r1 := M9.2.1 1 _ rfl
  have r2 := M9.2.1 2 _ rfl
  have r3 := M9.2.1 3 _ rfl
  exact bodyPost_ret (v := .tuple #[.agg #[.slice ca s.C.n kc, .slice ra s.R.n kr, .slice ha s.h kh, .int .i64 s.l], .bool false]) (by simp [results, Tryz.results29, go_sem, r0, r1, r2, r3]) rfl ⟨e9, _, by rw [hr.out], ⟨_, _, _, _, _, _, _, _, _, _, rfl⟩, fun h => by rw [hr.out] at h; exact absurd h (by simp)⟩
end Go.Proofs.YtnficndeblkjhaaGreatDoor
