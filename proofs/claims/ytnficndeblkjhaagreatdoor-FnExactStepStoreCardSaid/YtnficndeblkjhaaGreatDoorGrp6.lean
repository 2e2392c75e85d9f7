/- What runs is confirmed. -/
import Derived.Test.YtnficndeblkjhaaGreatDoorGrp4
import Derived.Lib.AppendZeros
import Derived.Test.YtnficndeblkjhaaGreatDoorGrp5
import Derived.Test.YtnficndeblkjhaaGreatDoorI16p
/- slices.Grow and slices.Concat at lists of lists of leaves. -/
namespace Go.Proofs.YtnficndeblkjhaaGreatDoor
open Go.RowKit

theorem zero_cells_sizeX (n : Nat) : (Builtin.zeroCells #[Value.slice none 0 0] n).size = n * 1 := by simp [Builtin.zeroCells]
set_option maxRecDepth 100000 in
set_option maxHeartbeats 1600000 in
theorem i_growX (m : Nat) (n : Int) (e : n = m) (w : World) (h0 : 0 < m) (h1 : m ≤ 8589934594) :
    Calls Tryz.prog 125 #[.slice none 0 0, .int .i64 n] w fun e w' => ∃ v, e = .returned v ∧ OwnW 31 1 w.heap.size v 0 [] w' ∧ Below w.heap.size w w' := by
  subst e
  obtain ⟨ht, hinfo, _, _⟩ := leafST
  obtain ⟨i, hi, hzz⟩ := Option.map_eq_some_iff.1 hinfo
  simp only [Prod.mk.injEq] at hzz
  obtain ⟨hz, hsz, hby⟩ := hzz
  have hr := hide (fun (w : World) (ty : TypeId) => Lib.run_append_nil_zeros (P := Tryz.prog) w 32 3 ty 31 i (.slice none 0 0) .i64 .i64 Tryz.underlying32 Tryz.underlying3 hi hz m h0 (by rw [hsz]; decide) (by omega) (by rw [hby]; omega))
  have hcap := hide (fun w : World => And.intro (grownCap_ge w m 0 31) (grownCap_le_maxLen w m 0 31 (by unfold maxLen; omega)))
  clear hi hz hsz hby hinfo ht
  have hpos : (m : Int) > 0 := by omega
  have hneg : ¬ ((m : Int) < 0) := by omega
  go_enter Tryz.func125, Tryz.ntmps125
  go_wp2_with (first | (at_builtin; refine Lib.wpList_append_run _ rfl _ _ _ _ rfl _ _ rfl rfl _ _ (hr.out _ _) ?_))
  obtain ⟨k1, k2⟩ := hcap.out w
  have hM : (Builtin.zeroCells #[Value.slice none 0 0] m ++ Builtin.zeroCells #[Value.slice none 0 0] (grownCap w m 0 31 - m)).size = grownCap w m 0 31 * 1 := by
    have e1 := zero_cells_sizeX m
    have e2 := zero_cells_sizeX (grownCap w m 0 31 - m)
    rw [Array.size_append, e1, e2]
    omega
  have hO : OwnW 31 1 w.heap.size (.slice (some ⟨w.heap.size, 0, none⟩) 0 (grownCap w m 0 31)) 0 [] (w.alloc (.cells (Builtin.zeroCells #[Value.slice none 0 0] m ++ Builtin.zeroCells #[Value.slice none 0 0] (grownCap w m 0 31 - m)) 31)) :=
    World.ownsRow_made (e := 31) (size := 1) (base := w.heap.size) w _ _ (Nat.le_refl _) k2 hM
  exact bodyPost_ret (v := .slice (some ⟨w.heap.size, 0, none⟩) 0 (grownCap w m 0 31)) (by simp [results, Tryz.results125, go_sem]) rfl ⟨_, rfl, ownW_below hO (Below.refl _ _).drew, (below_box (Below.refl _ _)).drew⟩
set_option maxRecDepth 100000 in
set_option maxHeartbeats 3200000 in
theorem i_concatX (b c : Nat) (xa : List Value) (ba oa ca : Nat) (xb : List Value) (bb ob cb : Nat) (w : World) (hla : 0 < xa.length) (hlA : xa.length ≤ 1048576) (hlB : xb.length ≤ 1048576) (h1a : ∀ u ∈ xa, u.oneCell' = true) (h1b : ∀ u ∈ xb, u.oneCell' = true)
    (M : Mut w b [.slice (some ⟨ba, oa, none⟩) xa.length ca, .slice (some ⟨bb, ob, none⟩) xb.length cb]) (hA : RowW (some ⟨ba, oa, none⟩) xa w) (hB : RowW (some ⟨bb, ob, none⟩) xb w) :
    Calls Tryz.prog 113 #[.slice (some ⟨b, 0, none⟩) 2 c] w fun e w' => ∃ v, e = .returned v ∧ OwnW 31 1 w.heap.size v (xa.length + xb.length) (xa ++ xb) w' ∧ Below w.heap.size w w' := by
  have s1 := hide (fun w => i_growX (xa.length + xb.length) ((xa.length : Int) + (xb.length : Int)) (by omega) w (by omega) (by omega))
  have c0 := M.2.1 0 _ rfl
  have c1 := M.2.1 1 _ rfl
  have n1 : ¬ ((xa.length : Int) < 0) := by omega
  have n2 : ¬ ((xa.length : Int) + (xb.length : Int) < 0) := by omega
  go_enter Tryz.func113, Tryz.ntmps113
  go_wp2_with fail
  go_loopw [3, 5, 11] (fun s _ i wr => (i = .int .i64 0 ∧ s = .int .i64 0 ∨ i = .int .i64 1 ∧ s = .int .i64 (xa.length : Int) ∨ i = .int .i64 2 ∧ s = .int .i64 ((xa.length : Int) + (xb.length : Int))) ∧ wr = w) (fun _ _ i _ => 2 - (intOf i).toNat)
  case atStart => exact ⟨.inl ⟨rfl, rfl⟩, rfl⟩
  case round =>
    obtain ⟨h3, hw⟩ := hrel
    have hw := hw.symm
    subst hw
    obtain ⟨rfl, rfl⟩ | ⟨rfl, rfl⟩ | ⟨rfl, rfl⟩ := h3
    · go_wp2_with fail
      exact ⟨⟨.inr (.inl ⟨rfl, rfl⟩), by trivial⟩, by simp [intOf]⟩
    · go_wp2_with fail
      exact ⟨⟨.inr (.inr ⟨rfl, rfl⟩), by trivial⟩, by simp [intOf]⟩
    · go_wp2_with fail
      refine (s1.out _).mono ?_
      rintro e w1 ⟨v1, rfl, ho1, hb1⟩
      clear c0 c1 s1
      go_wp2_with fail
      go_loopw [6, 8, 27] (fun o _ i wr' => (i = .int .i64 0 ∧ OwnW 31 1 w.heap.size o 0 [] wr' ∨ i = .int .i64 1 ∧ OwnW 31 1 w.heap.size o xa.length xa wr' ∨ i = .int .i64 2 ∧ OwnW 31 1 w.heap.size o (xa.length + xb.length) (xa ++ xb) wr') ∧ Below w.heap.size w wr') (fun _ _ i _ => 2 - (intOf i).toNat)
      case atStart => exact ⟨.inl ⟨rfl, ho1⟩, hb1⟩
      case round =>
        obtain ⟨⟨rfl, hown⟩ | ⟨rfl, hown⟩ | ⟨rfl, hown⟩, hb⟩ := hrel
        · have c0 := (M.below hb).2.1 0 _ rfl
          go_wp2_with (first | (at_builtin; refine wpList_appW leafST rfl _ _ rfl w.heap.size _ 0 [] rfl hown ba oa xa.length ca xa rfl (by omega) (hA.below hb) h1a (by omega) (by decide) hb.size ?_))
          intro v' w5 hown' hbe _ _
          have hb5 := hb.trans hbe
          go_wp2_with fail
          exact ⟨⟨.inr (.inl ⟨rfl, hown'⟩), hb5⟩, by simp [intOf]⟩
        · have c1 := (M.below hb).2.1 1 _ rfl
          go_wp2_with (first | (at_builtin; refine wpList_appW leafST rfl _ _ rfl w.heap.size _ xa.length xa rfl hown bb ob xb.length cb xb rfl (by omega) (hB.below hb) h1b (by omega) (by decide) hb.size ?_))
          intro v' w5 hown' hbe _ _
          have hb5 := hb.trans hbe
          go_wp2_with fail
          exact ⟨⟨.inr (.inr ⟨rfl, hown'⟩), hb5⟩, by simp [intOf]⟩
        · go_wp2_with fail
          go_ret
          exact ⟨_, rfl, hown, hb⟩
end Go.Proofs.YtnficndeblkjhaaGreatDoor

namespace Go.Proofs.YtnficndeblkjhaaGreatDoor
open Go.RowKit

theorem choose_hd {h : Nat} {P : Nat → Option Addr → Nat → Prop} (H : ∀ i, i < h → ∃ a c, P i a c) : ∃ (a : Nat → Option Addr) (c : Nat → Nat), ∀ i, i < h → P i (a i) (c i) := by
  refine ⟨fun i => if q : i < h then Classical.choose (H i q) else none, fun i => if q : i < h then Classical.choose (Classical.choose_spec (H i q)) else 0, fun i hi => ?_⟩
  simp only [dif_pos hi]
  exact Classical.choose_spec (Classical.choose_spec (H i hi))
/-- The heads of the lists. -/
def hdX (h : Nat) (H : Nat → Cf) (a : Nat → Option Addr) (c : Nat → Nat) : List Value := (List.range h).map (fun i => .slice (a i) (H i).n (c i))
theorem hdX_len (h : Nat) (H : Nat → Cf) (a : Nat → Option Addr) (c : Nat → Nat) : (hdX h H a c).length = h := by simp [hdX]
theorem hdX_at {h : Nat} {H : Nat → Cf} {a : Nat → Option Addr} {c : Nat → Nat} {i : Nat} (hi : i < h) : (hdX h H a c)[i]? = some (.slice (a i) (H i).n (c i)) := by
  unfold hdX
  rw [List.getElem?_map, List.getElem?_range hi]
  rfl
theorem hdX_one (h : Nat) (H : Nat → Cf) (a : Nat → Option Addr) (c : Nat → Nat) : ∀ u ∈ hdX h H a c, u.oneCell' = true := by
  intro u hu
  unfold hdX at hu
  rw [List.mem_map] at hu
  obtain ⟨i, _, rfl⟩ := hu
  rfl
theorem RowX.heads {K : Bool} {b off h : Nat} {H : Nat → Cf} {w : World} (R : RowX K (some ⟨b, off, none⟩) h H w) : ∃ (a : Nat → Option Addr) (c : Nat → Nat), RowW (some ⟨b, off, none⟩) (hdX h H a c) w ∧ ∀ i, i < h → RowF K (a i) (H i).n (H i).T w := by
  have q : ∀ i, i < h → ∃ a c, b < w.heap.size ∧ w.cell? ⟨b, off + i, none⟩ = some (.slice a (H i).n c) ∧ RowF K a (H i).n (H i).T w := fun i hi => by
    obtain ⟨b', off', a0, c0, e, hb, h0, hr⟩ := R i hi
    simp only [Option.some.injEq, Addr.mk.injEq, and_true] at e
    obtain ⟨rfl, rfl⟩ := e
    exact ⟨a0, c0, hb, h0, hr⟩
  obtain ⟨a, c, hac⟩ := choose_hd q
  refine ⟨a, c, fun j u hu => ?_, fun i hi => (hac i hi).2.2⟩
  have hj : j < h := by
    have := List.getElem?_eq_some_iff.1 hu
    obtain ⟨hl, _⟩ := this
    rwa [hdX_len] at hl
  rw [hdX_at hj] at hu
  obtain rfl := Option.some.inj hu
  exact ⟨b, off, rfl, (hac j hj).1, (hac j hj).2.1⟩
/-- A list ahead of the lists, as they lie: the first m. -/
theorem rowX_cons {g cap m h : Nat} {ra : Option Addr} {kr : Nat} {R : Cf} {H : Nat → Cf} {a : Nat → Option Addr} {c : Nat → Nat} {X : World} {base : Nat} (own : OwnW 31 1 base (.slice (some ⟨g, 0, none⟩) (1 + h) cap) (1 + h) ([.slice ra R.n kr] ++ hdX h H a c) X) (hm : m ≤ 1 + h) (hR : RowF true ra R.n R.T X) (hH : ∀ i, i < h → RowF true (a i) (H i).n (H i).T X) :
    RowX true (some ⟨g, 0, none⟩) m (fun i => if i = 0 then R else H (i - 1)) X := by
  obtain ⟨a', cap', hv, hr, _⟩ := ownW_row own
  simp only [Value.slice.injEq, true_and] at hv
  obtain ⟨rfl, rfl⟩ := hv
  intro i hi
  by_cases e : i = 0
  · subst e
    obtain ⟨b, off, ha, hb, h0⟩ := hr 0 (.slice ra R.n kr) rfl
    exact ⟨b, off, ra, kr, ha, hb, h0, hR⟩
  · have e2 : ([Value.slice ra R.n kr] ++ hdX h H a c)[i]? = some (.slice (a (i - 1)) (H (i - 1)).n (c (i - 1))) := by
      have e1 : ([Value.slice ra R.n kr] : List Value).length = 1 := rfl
      rw [List.getElem?_append_right (by rw [e1]; omega), e1]
      exact hdX_at (by omega)
    obtain ⟨b, off, ha, hb, h0⟩ := hr i _ e2
    simp only [if_neg e]
    exact ⟨b, off, a (i - 1), c (i - 1), ha, hb, h0, hH (i - 1) (by omega)⟩
set_option maxRecDepth 100000 in
set_option maxHeartbeats 1600000 in
theorem i_confirmed (v : Value) (s : Sto) (w0 w : World) (hb : Below w0.heap.size w0 w) (hR : RowSt true v s w0) (hs : OkS s) :
    Calls Tryz.prog 99 #[v] w fun e w' => ∃ v', e = .returned v' ∧ Stb w0.heap.size w.heap.size (RowSt true v' (conS s)) w' ∧ Below w.heap.size w w' := by
  obtain ⟨ca, kc, ra, kr, ha, kh, rfl, R1, R2, R3, R4⟩ := hR
  have hRS : RowSt true (stV s ca kc ra kr ha kh) s w0 := ⟨ca, kc, ra, kr, ha, kh, rfl, R1, R2, R3, R4⟩
  unfold stV
  unfold stV at hRS
  have M1 := (Mut.new w #[.slice ca s.C.n kc, .slice ra s.R.n kr, .slice ha s.h kh, .int .i64 0] 34).alloc (.cells #[.slice none 0 0, .slice none 0 0, .slice none 0 0, .int .i64 0] 34)
  have M2 := Mut.new (w.alloc (.cells #[.slice ca s.C.n kc, .slice ra s.R.n kr, .slice ha s.h kh, .int .i64 0] 34)) #[.slice none 0 0, .slice none 0 0, .slice none 0 0, .int .i64 0] 34
  have d1 : Below w.heap.size w ((w.alloc (.cells #[.slice ca s.C.n kc, .slice ra s.R.n kr, .slice ha s.h kh, .int .i64 0] 34)).alloc (.cells #[.slice none 0 0, .slice none 0 0, .slice none 0 0, .int .i64 0] 34)) := below_box2 (Below.refl _ _)
  simp only [World.size_alloc] at M2
  obtain ⟨o1, o2, o3, o4, o5, _, _⟩ := hs
  have RN := hide (fun w R => i_runsNewest (stV ⟨s.C, s.R, s.h, s.H, 0⟩ ca kc ra kr ha kh) ⟨s.C, s.R, s.h, s.H, 0⟩ w o3 o2.low.1 o2.low.2 (o5 0 (by omega)).low.1 R)
  have hR0 : RowSt true (stV ⟨s.C, s.R, s.h, s.H, 0⟩ ca kc ra kr ha kh) ⟨s.C, s.R, s.h, s.H, 0⟩ w0 := ⟨ca, kc, ra, kr, ha, kh, rfl, R1, R2, R3, R4⟩
  have hY : Hid (SameC s.R (s.H 0) → conS s = ⟨s.C, s.R, s.h, s.H, 0⟩) := fun h => if_pos (tB_t h)
  have hZ : Hid (¬ SameC s.R (s.H 0) → conS s = ⟨s.C, s.R, min (s.h + 1) 10, fun i => if i = 0 then s.R else s.H (i - 1), 0⟩) := fun h => if_neg (by simp [tB_f h])
  generalize conS s = GA at *
  have dB := hb.trans (d1.mono hb.size)
  obtain ⟨bh, oh, ah0, ch0, hva, hbw, _, _⟩ := R3 0 (by omega)
  subst hva
  unfold stV at RN hR0
  go_enter Tryz.func99, Tryz.ntmps99
  go_wp2_with fail
  generalize ((w.alloc (.cells #[.slice ca s.C.n kc, .slice ra s.R.n kr, .slice (some ⟨bh, oh, none⟩) s.h kh, .int .i64 0] 34)).alloc (.cells #[.slice none 0 0, .slice none 0 0, .slice none 0 0, .int .i64 0] 34)) = w1 at *
  refine (RN.out _ (hR0.below dB).any).mono ?_
  rintro e w2 ⟨rfl, bb⟩
  replace M1 := M1.below bb
  replace M2 := M2.below bb
  have hw1 : w.heap.size ≤ w1.heap.size := d1.size
  have d2 := d1.trans (bb.mono d1.size)
  have dB2 := hb.trans (d2.mono hb.size)
  clear bb RN d1 dB
  have v0 := M1.2.1 0 _ rfl
  have v1 := M1.2.1 1 _ rfl
  have v2 := M1.2.1 2 _ rfl
  have v3 := M1.2.1 3 _ rfl
  have f2 := M1.2.2 2 (by simp)
  by_cases hsm : SameC s.R (s.H 0)
  · rw [tB_t hsm]
    have hE := hide (hY.out hsm)
    clear hY hZ
    go_wp2_with (refine wpList_storeM (us := [.slice ca s.C.n kc, .slice ra s.R.n kr, .slice (some ⟨bh, oh, none⟩) s.h kh, .int .i64 0]) rfl rfl rfl rfl M2 rfl (by intro v hv; simp only [List.mem_cons, List.not_mem_nil, or_false] at hv; rcases hv with rfl | rfl | rfl | rfl <;> rfl) sizeSto ?_; intro w9 M9 o9)
    have on := OnlyP.of_only (P := fun x => x = w.heap.size + 1) o9 rfl
    have q9 := on.2.2.2.1
    have e9 := (d2).trans (on.below (base := w.heap.size) (fun x _ hx => by have h : x = w.heap.size + 1 := hx; omega) (d2).size)
    have b9 := hb.trans (e9.mono hb.size)
    have r0 := M9.2.1 0 _ rfl
    have r1 := M9.2.1 1 _ rfl
    have r2 := M9.2.1 2 _ rfl
    have r3 := M9.2.1 3 _ rfl
    refine bodyPost_ret (v := .agg #[.slice ca s.C.n kc, .slice ra s.R.n kr, .slice (some ⟨bh, oh, none⟩) s.h kh, .int .i64 0]) (by simp [results, Tryz.results99, go_sem, r0, r1, r2, r3]) rfl (⟨_, rfl, by rw [hE.out]; exact Stb.old (fun w' b => RowSt.below (s := ⟨s.C, s.R, s.h, s.H, 0⟩) ⟨ca, kc, ra, kr, _, kh, rfl, R1, R2, R3, R4⟩ b) b9, e9⟩)
  rw [tB_f hsm]
  have hE := hide (hZ.out hsm)
  clear hY hZ
  obtain ⟨ah, ch, hW, hF⟩ := R3.heads
  have Q1 := (Mut.new w2 #[.slice ra s.R.n kr] 31).alloc (.cells #[.slice (some ⟨w2.heap.size, 0, none⟩) 1 1, .slice (some ⟨bh, oh, none⟩) s.h kh] 32)
  have Q2 := Mut.new (w2.alloc (.cells #[.slice ra s.R.n kr] 31)) #[.slice (some ⟨w2.heap.size, 0, none⟩) 1 1, .slice (some ⟨bh, oh, none⟩) s.h kh] 32
  have bq : Below w2.heap.size w2 ((w2.alloc (.cells #[.slice ra s.R.n kr] 31)).alloc (.cells #[.slice (some ⟨w2.heap.size, 0, none⟩) 1 1, .slice (some ⟨bh, oh, none⟩) s.h kh] 32)) := below_box2 (Below.refl _ _)
  simp only [World.size_alloc] at Q2
  have hlen := hdX_len s.h s.H ah ch
  have dB3 := dB2.trans (bq.mono dB2.size)
  have CC := hide (fun W M hA hB => i_concatX (w2.heap.size + 1) 2 [.slice ra s.R.n kr] w2.heap.size 0 1 (hdX s.h s.H ah ch) bh oh kh W (by simp) (by simp) (by rw [hlen]; omega) (by intro u hu; simp at hu; subst hu; rfl) (hdX_one _ _ _ _) M hA hB)
  rw [hlen] at CC
  have hM2 := M2.1
  have hS0 := M1.1
  have AS := fun (o : Obj) k => old1 hS0 o k
  go_wp2_with fail
  refine (CC.out _ Q2 (RowW.mut Q1) (hW.below dB3)).mono ?_
  rintro e w3 ⟨vn, rfl, own, bb⟩
  have e2 := bq.trans (bb.mono bq.size)
  replace M1 := M1.below e2
  replace M2 := M2.below e2
  have d3 := d2.trans (e2.mono d2.size)
  have hcall := bq.size
  have hd2 := d2.size
  have hw2 : w.heap.size + 1 < w2.heap.size := hM2
  clear AS hS0 e2 bb bq CC Q1 Q2 dB3 v0 v1 v2 v3 f2 d2 dB2 hlen
  obtain ⟨an, cn, hvn, _, hcn⟩ := ownW_row own
  subst hvn
  rcases hcn with ⟨_, _, hn0⟩ | ⟨g, rfl, hgb, _, hgc, _⟩
  · simp at hn0
  have v0 := M1.2.1 0 _ rfl
  have v1 := M1.2.1 1 _ rfl
  have v2 := M1.2.1 2 _ rfl
  have v3 := M1.2.1 3 _ rfl
  have f2 := M1.2.2 2 (by simp)
  have hl1 : ([.slice ra s.R.n kr] : List Value).length = 1 := rfl
  rw [hl1] at own hgc
  have fin : ∀ (m : Nat) (w9 : World), min (s.h + 1) 10 = m → m ≤ cn → OnlyP (fun x => w.heap.size ≤ x ∧ x < w2.heap.size) w3 w9 → Below w.heap.size w w9 → Stb w0.heap.size w.heap.size (RowSt true (.agg #[.slice ca s.C.n kc, .slice ra s.R.n kr, .slice (some ⟨g, 0, none⟩) m cn, .int .i64 0]) GA) w9 := fun m w9 hm hmc on e9 X oX => by
    have b9 := hb.trans (e9.mono hb.size)
    have bX := b9.trans (only_below oX b9.size)
    rw [hE.out, hm]
    have ownX := ownW_onlyP (ownW_onlyP own on (fun k hk h => by have h1 := (ownW_lt own hk).1; have h2 : k < w2.heap.size := h.2; omega)) oX (fun k hk h => by have h1 := (ownW_lt own hk).1; have h2 : k < w.heap.size := h.2; omega)
    exact ⟨ca, kc, ra, kr, some ⟨g, 0, none⟩, cn, rfl, R1.below bX, R2.below bX, rowX_cons ownX (show m ≤ 1 + s.h by omega) (R2.below bX) (fun i hi => (hF i hi).below bX), hmc⟩
  obtain ⟨n1, hn1⟩ : ∃ n1, n1 = 1 + s.h := ⟨_, rfl⟩
  rw [hl1, ← hn1]
  rw [← hn1] at hgc
  have hq1 : n1 ≤ 11 := by omega
  replace hn1 := hide hn1
  clear hl1 own
  by_cases h10 : n1 ≤ 10
  · have fin := hide (fun w9 on e9 => fin n1 w9 (by have := hn1.out; omega) hgc on e9)
    have hm : min (n1 : Int) 10 = (n1 : Int) := by omega
    have hh : (n1 : Int) ≤ 10 := by omega
    go_wp2_with (refine wpList_storeM (us := [.slice ca s.C.n kc, .slice ra s.R.n kr, .slice (some ⟨g, 0, none⟩) n1 cn, .int .i64 0]) rfl rfl rfl rfl (M2.other (c := w.heap.size) (by omega) 2 (.slice (some ⟨g, 0, none⟩) n1 cn)) rfl (by intro v hv; simp only [List.mem_cons, List.not_mem_nil, or_false] at hv; rcases hv with rfl | rfl | rfl | rfl <;> rfl) sizeSto ?_; intro w9 M9 o9)
    have on1 : OnlyP (fun x => w.heap.size ≤ x ∧ x < w2.heap.size) w3 (w3.setCell ⟨w.heap.size, 2, none⟩ (.slice (some ⟨g, 0, none⟩) n1 cn)) := (OnlyP.refl _ w3).set15 ⟨Nat.le_refl _, by omega⟩ _ _
    have on2 := on1.trans (OnlyP.of_only (P := fun x => w.heap.size ≤ x ∧ x < w2.heap.size) o9 ⟨by omega, by omega⟩)
    have e9 : Below w.heap.size w w9 := d3.trans (on2.below (fun _ _ hk => hk.1) d3.size)
    have r0 := M9.2.1 0 _ rfl
    have r1 := M9.2.1 1 _ rfl
    have r2 := M9.2.1 2 _ rfl
    have r3 := M9.2.1 3 _ rfl
    refine bodyPost_ret (v := .agg #[.slice ca s.C.n kc, .slice ra s.R.n kr, .slice (some ⟨g, 0, none⟩) n1 cn, .int .i64 0]) (by simp [results, Tryz.results99, go_sem, r0, r1, r2, r3]) rfl ⟨_, rfl, fin.out _ on2 e9, e9⟩
  · have fin := hide (fun w9 on e9 => fin 10 w9 (by have := hn1.out; omega) (by omega) on e9)
    have hm : min (n1 : Int) 10 = 10 := by omega
    have hh : ¬ (n1 : Int) ≤ 10 := by omega
    go_wp2_with (refine wpList_storeM (us := [.slice ca s.C.n kc, .slice ra s.R.n kr, .slice (some ⟨g, 0, none⟩) 10 cn, .int .i64 0]) rfl rfl rfl rfl (M2.other (c := w.heap.size) (by omega) 2 (.slice (some ⟨g, 0, none⟩) 10 cn)) rfl (by intro v hv; simp only [List.mem_cons, List.not_mem_nil, or_false] at hv; rcases hv with rfl | rfl | rfl | rfl <;> rfl) sizeSto ?_; intro w9 M9 o9)
    have on1 : OnlyP (fun x => w.heap.size ≤ x ∧ x < w2.heap.size) w3 (w3.setCell ⟨w.heap.size, 2, none⟩ (.slice (some ⟨g, 0, none⟩) 10 cn)) := (OnlyP.refl _ w3).set15 ⟨Nat.le_refl _, by omega⟩ _ _
    have on2 := on1.trans (OnlyP.of_only (P := fun x => w.heap.size ≤ x ∧ x < w2.heap.size) o9 ⟨by omega, by omega⟩)
    have e9 : Below w.heap.size w w9 := d3.trans (on2.below (fun _ _ hk => hk.1) d3.size)
    have r0 := M9.2.1 0 _ rfl
    have r1 := M9.2.1 1 _ rfl
    have r2 := M9.2.1 2 _ rfl
    have r3 := M9.2.1 3 _ rfl
    refine bodyPost_ret (v := .agg #[.slice ca s.C.n kc, .slice ra s.R.n kr, .slice (some ⟨g, 0, none⟩) 10 cn, .int .i64 0]) (by simp [results, Tryz.results99, go_sem, r0, r1, r2, r3]) rfl ⟨_, rfl, fin.out _ on2 e9, e9⟩
end Go.Proofs.YtnficndeblkjhaaGreatDoor
