/- Going back along all paths, of the specification. -/
import Derived.Test.YtcnlabedlcmilaaS9d
import Derived.Deep.RegionHeld3
import Derived.Deep.DeepCutAuto
import Derived.Deep.CutRange
namespace Go.Proofs.Ytcnlabedlcmilaa
open Go.RowKit

theorem OutInt.put9 {c n : Nat} {f : Nat → Int} {w : World} (h : OutInt c n n f w) {i : Nat} (hi : i < n) (x : Int) : OutInt c n n (fun v => if v = i then x else f v) (w.setCell ⟨c, i, none⟩ (.int .i64 x)) := by
  refine ⟨by simpa using h.1, fun v hv => ?_⟩
  obtain ⟨⟨y, h0, hy⟩, g0⟩ := h.2 v hv
  by_cases e : v = i
  · subst e
    refine ⟨⟨x, by simp [go_sem, h0], fun _ => by simp⟩, by simpa [go_sem] using g0⟩
  · refine ⟨⟨y, ?_, fun _ => by simp [e, hy hv]⟩, by simpa [go_sem] using g0⟩
    rw [World.cell?_setCell_other _ _ _ _ (by simp <;> omega)]; exact h0
theorem OutInt.congr9 {c n : Nat} {f g : Nat → Int} {w : World} (h : OutInt c n n f w) (e : ∀ i, i < n → f i = g i) : OutInt c n n g w := by
  refine ⟨h.1, fun v hv => ?_⟩
  obtain ⟨⟨y, h0, hy⟩, g0⟩ := h.2 v hv
  exact ⟨⟨y, h0, fun _ => (hy hv).trans (e v hv)⟩, g0⟩
/-- What was seen, as a list in memory that is not block bb. -/
def Seen9 (sb so : Nat) (L : List Int) (s : Nat → Bool) (bb : Nat) (w : World) : Prop := RowN .i64 (some ⟨sb, so, none⟩) L w ∧ (∀ v : Nat, v < 6 → s v = hasN L v) ∧ sb ≠ bb ∧ sb < w.heap.size ∧ L.length + left9 s ≤ 6
theorem Seen9.only {sb so : Nat} {L : List Int} {s : Nat → Bool} {bb : Nat} {w w' : World} (h : Seen9 sb so L s bb w) (k : Only bb w w') : Seen9 sb so L s bb w' := by
  refine ⟨fun i hi => ?_, h.2.1, h.2.2.1, Nat.lt_of_lt_of_le h.2.2.2.1 k.2.2.2.1, h.2.2.2.2⟩
  obtain ⟨b, off, ha, hb, h0⟩ := h.1 i hi
  simp only [Option.some.injEq, Addr.mk.injEq, and_true] at ha
  obtain ⟨rfl, rfl⟩ := ha
  exact ⟨sb, so, rfl, Nat.lt_of_lt_of_le hb k.2.2.2.1, (k.cell hb h.2.2.1).trans h0⟩
/-- What walking back leaves. -/
def WalkP (L : Int → Int → Int) (T : Nat → Lc) (p : Nat) (x : Int) (s : Nat → Bool) (bb : Nat) (o : Nat → Int) (w : World) (e : Ending) (w' : World) : Prop := e = .returned (.tuple #[]) ∧ ∃ r, OutInt bb 6 6 r w' ∧ Only bb w w' ∧ Least (Rch L T p x s) o r
/-- Of the speakers ahead of k. -/
def Upto (L : Int → Int → Int) (T : Nat → Lc) (p : Nat) (x : Int) (s : Nat → Bool) (k : Nat) (v : Nat) (y : Int) : Prop := (v = p ∧ y = x) ∨ ∃ q : Nat, q < k ∧ 0 ≤ L q p ∧ s q = false ∧ Rch L T q (ap9 T (L q p) x) (fun i => if i = q then true else s i) v y
theorem upto_all {L : Int → Int → Int} {T : Nat → Lc} {p : Nat} {x : Int} {s : Nat → Bool} {o r : Nat → Int} (h : Least (Upto L T p x s 6) o r) : Least (Rch L T p x s) o r := h.congr fun _ _ _ => rch_iff.symm
theorem upto_skip {L : Int → Int → Int} {T : Nat → Lc} {p : Nat} {x : Int} {s : Nat → Bool} {k : Nat} {o r : Nat → Int} (h : Least (Upto L T p x s k) o r) (hk : ¬ (0 ≤ L k p ∧ s k = false)) : Least (Upto L T p x s (k + 1)) o r := h.congr fun v _ y => by
  constructor
  · rintro (h | ⟨q, h1, h2⟩)
    · exact .inl h
    · exact .inr ⟨q, by omega, h2⟩
  · rintro (h | ⟨q, h1, h2, h3, h4⟩)
    · exact .inl h
    · by_cases e : q = k
      · subst e; exact absurd ⟨h2, h3⟩ hk
      · exact .inr ⟨q, by omega, h2, h3, h4⟩
theorem upto_take {L : Int → Int → Int} {T : Nat → Lc} {p : Nat} {x : Int} {s : Nat → Bool} {k : Nat} {o r q : Nat → Int} (h : Least (Upto L T p x s k) o r) (h1 : 0 ≤ L k p) (h2 : s k = false) (h3 : Least (Rch L T k (ap9 T (L k p) x) (fun i => if i = k then true else s i)) r q) : Least (Upto L T p x s (k + 1)) o q := (h.trans h3).congr fun v _ y => by
  constructor
  · rintro ((h | ⟨q, g1, g2⟩) | h)
    · exact .inl h
    · exact .inr ⟨q, by omega, g2⟩
    · exact .inr ⟨k, by omega, h1, h2, h⟩
  · rintro (h | ⟨q, g1, g2, g3, g4⟩)
    · exact .inl (.inl h)
    · by_cases e : q = k
      · subst e; exact .inr g4
      · exact .inl (.inr ⟨q, by omega, g2, g3, g4⟩)
theorem upto_zero {L : Int → Int → Int} {T : Nat → Lc} {p : Nat} {x : Int} {s : Nat → Bool} (o : Nat → Int) : Least (Upto L T p x s 0) o (fun v => if v = p then min (o v) x else o v) := (Least.one o p x).congr fun v _ y => by
  constructor
  · exact fun h => .inl h
  · rintro (h | ⟨q, g1, _⟩)
    · exact h
    · exact absurd g1 (by omega)
theorem hasN_snoc {L : List Int} {s : Nat → Bool} {k : Nat} (h : ∀ v : Nat, v < 6 → s v = hasN L v) : ∀ v : Nat, v < 6 → (if v = k then true else s v) = hasN (L ++ [(k : Int)]) v := by
  intro v hv
  unfold hasN
  rw [List.any_append]
  by_cases e : v = k
  · subst e; simp
  · have e' : ((k : Int) == (v : Int)) = false := by simp; omega
    rw [if_neg e, h v hv]
    simp [hasN, e']
theorem keep4 {w0 w' : World} {p q t o1 o2 : Nat} {a b c d : Value} (h : Below w0.heap.size w0 w') (hp : p < w0.heap.size) (hq : q < w0.heap.size) (ht : t < w0.heap.size) (k0 : w0.cell? ⟨p, 0, none⟩ = some a) (k1 : w0.cell? ⟨p, 1, none⟩ = some b) (k2 : w0.cell? ⟨q, o1, none⟩ = some c) (k3 : w0.cell? ⟨t, o2, none⟩ = some d) :
    w'.cell? ⟨p, 0, none⟩ = some a ∧ w'.cell? ⟨p, 1, none⟩ = some b ∧ w'.cell? ⟨q, o1, none⟩ = some c ∧ w'.cell? ⟨t, o2, none⟩ = some d :=
  ⟨((bcell h).1 _ _ hp).trans k0, ((bcell h).1 _ _ hp).trans k1, ((bcell h).1 _ _ hq).trans k2, ((bcell h).1 _ _ ht).trans k3⟩
theorem keep4o {w0 w' : World} {z p q t o1 o2 : Nat} {a b c d : Value} (h : Only z w0 w') (np : p ≠ z) (nq : q ≠ z) (nt : t ≠ z) (hp : p < w0.heap.size) (hq : q < w0.heap.size) (ht : t < w0.heap.size) (k0 : w0.cell? ⟨p, 0, none⟩ = some a) (k1 : w0.cell? ⟨p, 1, none⟩ = some b) (k2 : w0.cell? ⟨q, o1, none⟩ = some c) (k3 : w0.cell? ⟨t, o2, none⟩ = some d) :
    w'.cell? ⟨p, 0, none⟩ = some a ∧ w'.cell? ⟨p, 1, none⟩ = some b ∧ w'.cell? ⟨q, o1, none⟩ = some c ∧ w'.cell? ⟨t, o2, none⟩ = some d :=
  ⟨(h.cell hp np).trans k0, (h.cell hp np).trans k1, (h.cell hq nq).trans k2, (h.cell ht nt).trans k3⟩
theorem srcN_grown {w w' : World} {r : Option Nat} {b : Nat} {M : List Int} {c : Nat} (h : SrcN .i64 (some ⟨b, 0, none⟩) M c w) (gr : w.grownBy w' r) (hb : b < w.heap.size) (hn : r ≠ some b) : SrcN .i64 (some ⟨b, 0, none⟩) M c w' := by
  refine ⟨fun i hi => ?_, .inr ⟨_, _, rfl⟩⟩
  obtain ⟨b', off, ha, hlt, h0⟩ := h.1 i hi
  have e := ha
  simp only [Option.some.injEq, Addr.mk.injEq, and_true] at e
  obtain ⟨rfl, rfl⟩ := e
  exact ⟨b, 0, rfl, Nat.lt_of_lt_of_le hlt gr.size, (World.cell?_of_block (w := w) (gr.block b hb (fun e => hn e.symm))).trans h0⟩
theorem seen_snoc {e : TypeId} {sb so : Nat} {L : List Int} {s : Nat → Bool} {bb k sb2 cap2 base : Nat} {w wS : World} (h : Seen9 sb so L s bb w) (own : OwnN e .i64 base (.slice (some ⟨sb2, 0, none⟩) (L ++ [(k : Int)]).length cap2) (L ++ [(k : Int)]) wS) (hge : base ≤ sb2) (hlt : sb2 < wS.heap.size) (hb : bb < base) (hl : left9 (fun i => if i = k then true else s i) < left9 s) : Seen9 sb2 0 (L ++ [(k : Int)]) (fun i => if i = k then true else s i) bb wS := by
  refine ⟨fun i hi => ⟨sb2, 0, rfl, hlt, by rw [Nat.zero_add]; exact ownN_at own hi⟩, hasN_snoc h.2.1, by omega, hlt, ?_⟩
  have := h.2.2.2.2
  rw [List.length_append, List.length_singleton]
  omega
set_option maxRecDepth 100000 in
set_option maxHeartbeats 6400000 in
theorem s_walk9 (g : Int) (a : Option Addr) (m c : Nat) (T : Nat → Lc) (ra : Option Addr) (n rc : Nat) (f0 f1 f2 : Nat → Int) (w0 : World) (hNA : NA g m T n f0 f1 f2) (hR : RowLL a m T w0) (hA : RowArc ra n f0 f1 f2 w0) (bb bc : Nat) (hw0 : w0.heap.size ≤ bb) :
    ∀ (u p : Nat) (x : Int) (s : Nat → Bool) (o : Nat → Int) (L : List Int) (sb so sn sc : Nat) (w : World), sn = L.length → left9 s ≤ u → p < 6 → 0 ≤ x → x < g → Below w0.heap.size w0 w → Seen9 sb so L s bb w → OutInt bb 6 6 o w →
    Calls Try.prog 103 #[.agg #[.int .i64 g, .slice a m c], .slice ra n rc, .int .i64 p, .int .i64 x, .slice (some ⟨sb, so, none⟩) sn sc, .slice (some ⟨bb, 0, none⟩) 6 bc] w (WalkP (fun x y => lab9 f0 f1 f2 x y n) T p x s bb o w) := by
  intro u
  induction u using Nat.strongRecOn with
  | _ u ih =>
  intro p x s o L sb so sn sc w hsn hu hp hx0 hx1 hB hS hO
  subst hsn
  have IH := hide ih
  clear ih
  have MX := Mut.new w #[.int .i64 g, .slice a m c] 58
  have oX : Only bb w (w.alloc (.cells #[.int .i64 g, .slice a m c] 58)) := (Only.refl _ _).alloc _
  have hbw : bb < w.heap.size := hO.1
  have hbb : bb ≤ w.heap.size := by omega
  have hOX : OutInt bb 6 6 o (w.alloc (.cells #[.int .i64 g, .slice a m c] 58)) := hO.below (below_box (Below.refl _ _))
  obtain ⟨⟨yo, ho0, ho1⟩, ho2⟩ := hOX.2 p hp
  have ho1 := ho1 hp
  have hp6 : (p : Int) < 6 := by omega
  by_cases hlt : x < o p
  · rw [ho1] at ho0
    have hO1 : OutInt bb 6 6 (fun v => if v = p then min (o v) x else o v) ((w.setCell ⟨bb, p, none⟩ (.int .i64 x)).alloc (.cells #[.int .i64 g, .slice a m c] 58)) := ((hO.put9 hp x).congr9 fun i _ => by
      by_cases e : i = p
      · subst e; simp; omega
      · simp [e]).below (below_box (Below.refl _ _))
    have o1 : Only bb w ((w.setCell ⟨bb, p, none⟩ (.int .i64 x)).alloc (.cells #[.int .i64 g, .slice a m c] 58)) := ((Only.refl bb w).setCell p (.int .i64 x)).alloc _
    have M1 := Mut.new (w.setCell ⟨bb, p, none⟩ (.int .i64 x)) #[.int .i64 g, .slice a m c] 58
    simp only [World.size_setCell] at M1
    have hxo : x < o p := hlt
    clear hOX oX MX hlt
    generalize hop : o p = op at *
    go_enter Try.func103, Try.ntmps103
    go_wp2_with fail
    clear ho0 ho2 hxo
    generalize ((w.setCell ⟨bb, p, none⟩ (.int .i64 x)).alloc (.cells #[.int .i64 g, .slice a m c] 58)) = wx at *
    generalize hb6 : w.heap.size = b6 at *
    go_loopw [12] (fun y wr => ∃ (k : Nat) (r : Nat → Int), y = .int .i64 k ∧ k ≤ 6 ∧ OutInt bb 6 6 r wr ∧ Only bb w wr ∧ Mut wr b6 [.int .i64 g, .slice a m c] ∧ Hid (Least (Upto (fun x y => lab9 f0 f1 f2 x y n) T p x s k) o r)) (fun y _ => 6 - (intOf y).toNat)
    case atStart => exact ⟨0, _, rfl, by omega, hO1, o1, M1, upto_zero o⟩
    case round =>
      clear hO1 o1 M1
      obtain ⟨k, r, rfl, hk, hOr, oR, MR, hLe⟩ := hrel
      have dB : Below w0.heap.size w0 wr := hB.trans ((oR.below (by rw [hb6]; exact hbb)).mono hw0)
      by_cases hlt : k < 6
      · have hlt' : (k : Int) < 6 := by omega
        have AR := hide (fun w A => s_arc9 ra n rc f0 f1 f2 (k : Int) (p : Int) w hNA.2.1 A)
        have hLm := lab9_lt hNA.2.2 hNA.1.2.2.1 (k : Int) (p : Int)
        have hSk := hS.2.1 k hlt
        have hsk9 := hide (fun h => upto_skip hLe.out (k := k) h)
        have htk9 := hide (fun h1 h2 q h3 => upto_take hLe.out (k := k) (q := q) h1 h2 h3)
        have HS := hide (fun w R => s_l1Has (some ⟨sb, so, none⟩) L sc (k : Int) w (by have := hS.2.2.2.2; omega) R)
        generalize hLk : lab9 f0 f1 f2 (k : Int) (p : Int) n = Lk at *
        go_wp2_with fail
        refine (AR.out _ (hA.below dB)).mono ?_
        rintro e w3 ⟨rfl, b3⟩
        have o3 := oR.trans (Only.of_below b3)
        have hO3 := hOr.below b3
        have M3 := MR.below b3
        have d3 := dB.trans (b3.mono dB.size)
        have hS3 := hS.only o3
        clear oR hOr MR dB b3 hLe
        by_cases hL0 : Lk ≥ 0
        · cases hh : hasN L (k : Int) with
          | true =>
            rw [hh] at HS hSk
            have hN := hide (hsk9.out (fun h => by rw [hSk] at h; cases h.2))
            go_wp2_with fail
            refine (HS.out _ hS3.1).mono ?_
            rintro e w4 ⟨rfl, hw4⟩
            rw [hw4]; clear hw4 w4
            go_wp2_with fail
            exact ⟨⟨k + 1, r, by go_num, by omega, hO3, o3, M3, hN⟩, by simp [intOf]; omega⟩
          | false =>
            rw [hh] at HS hSk
            obtain ⟨l, rfl⟩ := Int.eq_ofNat_of_zero_le (show 0 ≤ Lk by omega)
            obtain ⟨xn, rfl⟩ := Int.eq_ofNat_of_zero_le hx0
            have hlm : l < m := by omega
            have hll : (l : Int) < (m : Int) := by omega
            have hrow := hNA.1.2.2.2.2 l hlm
            have hap := ap9_ok hNA.1 (k := (l : Int)) (x := (xn : Int)) (by omega) (by omega) hx0 hx1
            have hap' : 0 ≤ (T l).f xn ∧ (T l).f xn < g := hap
            have hxl : (xn : Int) < ((T l).n : Int) := by have := hrow.1; omega
            obtain ⟨ab, ao, a0, q0, ha, hab, hcb, hro⟩ := hR l hlm
            subst ha
            obtain ⟨rb, ro, hae, hrb, hcr⟩ := hro xn (by omega)
            subst hae
            have k0 := M3.2.1 0 _ rfl
            have k1 := M3.2.1 1 _ rfl
            have k2 := (d3.cell (p := ⟨ab, ao + l, none⟩) hab).trans hcb
            have k3 := (d3.cell (p := ⟨rb, ro + xn, none⟩) hrb).trans hcr
            have hkb : b6 < w3.heap.size := M3.1
            have hka : ab < w3.heap.size := Nat.lt_of_lt_of_le hab d3.size
            have hkr : rb < w3.heap.size := Nat.lt_of_lt_of_le hrb d3.size
            have hsl := left9_lt hlt hSk
            have hb3 : bb < w3.heap.size := hO3.1
            have hlt9 := hide (htk9.out (by first | exact hL0 | (simp only [hLk]; exact hL0)) hSk)
            go_wp2_with fail
            refine (HS.out _ hS3.1).mono ?_
            rintro e w4 ⟨rfl, hw4⟩
            rw [hw4]; clear hw4 w4
            go_wp2_with fail
            have dZ : Below w3.heap.size w3 w3 := Below.refl _ _
            have dA : Below w3.heap.size w3 (w3.alloc (.cells #[] 3)) := below_box (Below.refl _ _)
            have dB2 : Below w3.heap.size w3 ((w3.alloc (.cells #[] 3)).alloc (.cells #[.int .i64 (k : Int)] 3)) := below_box2 (Below.refl _ _)
            have dC : Below w3.heap.size w3 ((w3.alloc (.cells #[.int .i64 (k : Int)] 3)).alloc (.cells #[] 3)) := below_box2 (Below.refl _ _)
            have ownA : OwnN 3 .i64 w3.heap.size (.slice (some ⟨w3.heap.size, 0, none⟩) 0 0) [] (w3.alloc (.cells #[] 3)) := World.ownsRow_made w3 #[] 0 (Nat.le_refl _) (by decide) rfl
            have ownB := ownN_below ownA (below_box (o := (.cells #[.int .i64 (k : Int)] 3)) (Below.refl _ _))
            have ownC : OwnN 3 .i64 w3.heap.size (.slice (some ⟨w3.heap.size + 1, 0, none⟩) 0 0) [] ((w3.alloc (.cells #[.int .i64 (k : Int)] 3)).alloc (.cells #[] 3)) := by
              have := World.ownsRow_made (e := 3) (size := 1) (base := w3.heap.size) (w3.alloc (.cells #[.int .i64 (k : Int)] 3)) #[] 0 (by simp) (by decide) rfl
              unfold OwnN
              simpa [ncells] using this
            have srcA : SrcN .i64 (some ⟨sb, so, none⟩) L sc (w3.alloc (.cells #[] 3)) := ⟨hS3.1.below dA, .inr ⟨_, _, rfl⟩⟩
            have srcB : SrcN .i64 (some ⟨sb, so, none⟩) L sc ((w3.alloc (.cells #[] 3)).alloc (.cells #[.int .i64 (k : Int)] 3)) := ⟨hS3.1.below dB2, .inr ⟨_, _, rfl⟩⟩
            have srcC : SrcN .i64 (some ⟨sb, so, none⟩) L sc ((w3.alloc (.cells #[.int .i64 (k : Int)] 3)).alloc (.cells #[] 3)) := ⟨hS3.1.below dC, .inr ⟨_, _, rfl⟩⟩
            have kB : SrcN .i64 (some ⟨w3.heap.size + 1, 0, none⟩) [(k : Int)] 1 ((w3.alloc (.cells #[] 3)).alloc (.cells #[.int .i64 (k : Int)] 3)) := by
              have := srcN1 (w3.alloc (.cells #[] 3)) (k : Int) 3
              simpa using this
            have kC : SrcN .i64 (some ⟨w3.heap.size, 0, none⟩) [(k : Int)] 1 ((w3.alloc (.cells #[.int .i64 (k : Int)] 3)).alloc (.cells #[] 3)) := (srcN1 w3 (k : Int) 3).below (below_box (Below.refl _ _))
            have hL6 : L.length ≤ 6 := by have := hS3.2.2.2.2; omega
            have hlen1 : Hid (([] : List Int).length + L.length ≤ 8589934593) := by show _ ≤ _; simp; omega
            have hlen2 : Hid (L.length + [(k : Int)].length ≤ 8589934593) := by show _ ≤ _; simp; omega
            have hb6n : b6 ≠ bb := by omega
            have habn : ab ≠ bb := by omega
            have hrbn : rb ≠ bb := by omega
            have hkZ := keep4 dZ.drew hkb hka hkr k0 k1 k2 k3
            have hkZA := fun o => keep4 (dZ.alloc dZ.size o) hkb hka hkr k0 k1 k2 k3
            have hkZAd := fun o => keep4 (dZ.alloc dZ.size o).drew hkb hka hkr k0 k1 k2 k3
            have hkZB := fun o o' => keep4 (below_box2 (o := o) (o' := o') (Below.refl _ _)) hkb hka hkr k0 k1 k2 k3
            have hkZBd := fun o o' => keep4 (below_box2 (o := o) (o' := o') (Below.refl _ _)).drew hkb hka hkr k0 k1 k2 k3
            go_region_held3 (fun w' => w'.cell? ⟨b6, 0, none⟩ = some (.int .i64 g) ∧ w'.cell? ⟨b6, 1, none⟩ = some (.slice (some ⟨ab, ao, none⟩) m c) ∧ w'.cell? ⟨ab, ao + l, none⟩ = some (.slice (some ⟨rb, ro, none⟩) (T l).n q0) ∧ w'.cell? ⟨rb, ro + xn, none⟩ = some (.int .i64 ((T l).f xn))) (first | with_reducible exact hkN | with_reducible exact hkS | with_reducible exact hkP | with_reducible exact hkPa _ | with_reducible exact hkZ | with_reducible exact hkZA _ | with_reducible exact hkZAd _ | with_reducible exact hkZB _ _ | with_reducible exact hkZBd _ _)
              (first
                | (go_at_call 103; refine (IH.out _ (Nat.lt_of_lt_of_le hsl hu) k ((T l).f xn) _ r (L ++ [(k : Int)]) sb2 0 _ cap2 _ (by simp) (Nat.le_refl _) hlt hap'.1 hap'.2 (by first | with_reducible exact dSw | with_reducible exact dSw.drew) (by first | with_reducible exact hS2 | with_reducible exact hS2.only (Only.of_below (Below.refl _ _).drew)) (by first | with_reducible exact hOS | with_reducible exact hOS.below (Below.refl _ _).drew)).mono ?_; rintro e wN ⟨rfl, r2, hON, oN, hLN⟩; have oN3 : Only bb w3 wN := (by first | with_reducible exact oS.trans oN | with_reducible exact (oS.trans (Only.of_below (Below.refl _ _).drew)).trans oN); have hkN := keep4o oN3 hb6n habn hrbn hkb hka hkr k0 k1 k2 k3)
                | (have hq := own1; refine step_appN numInt (by rfl) _ _ (by rfl) w3.heap.size v1 L (by rfl) (by first | with_reducible exact ownN_below own1 (below_box (Below.refl _ _)) | with_reducible exact ownN_below own1 (below_box (Below.refl _ _)).drew) (some ⟨wP.heap.size, 0, none⟩) [(k : Int)] 1 1 (by rfl) rfl (by first | with_reducible exact srcN1 wP (k : Int) 3 | with_reducible exact SrcN.below (srcN1 wP (k : Int) 3) (Below.refl _ _).drew) hlen2.out (by decide) (dP.alloc dP.size _).size ?_; intro v2 wS own2 bS2 _ _; have dS : Below w3.heap.size w3 wS := (dP.alloc dP.size _).trans bS2; have hkS := keep4 dS hkb hka hkr k0 k1 k2 k3; obtain ⟨sb2, cap2, rfl, hge2, hlt2⟩ := ownN_shape own2 (by simp); have hS2 := seen_snoc hS3 own2 hge2 hlt2 hb3 hsl; have hOS := hO3.below dS; have dSw := d3.trans (dS.mono d3.size); have oS : Only bb w3 wS := Only.of_below dS)
                | (have hq := srcK; refine step_appN numInt (by rfl) _ _ (by rfl) w3.heap.size v1 L (by rfl) own1 (some ⟨w3.heap.size + 1, 0, none⟩) [(k : Int)] 1 1 (by rfl) rfl srcK hlen2.out (by decide) dP.size ?_; intro v2 wS own2 bS2 _ _; have dS : Below w3.heap.size w3 wS := dP.trans bS2; have hkS := keep4 dS hkb hka hkr k0 k1 k2 k3; obtain ⟨sb2, cap2, rfl, hge2, hlt2⟩ := ownN_shape own2 (by simp); have hS2 := seen_snoc hS3 own2 hge2 hlt2 hb3 hsl; have hOS := hO3.below dS; have dSw := d3.trans (dS.mono d3.size); have oS : Only bb w3 wS := Only.of_below dS)
                | (have hq := srcK; refine step_appN numInt (by rfl) _ _ (by rfl) w3.heap.size v1 L (by rfl) own1 (some ⟨w3.heap.size, 0, none⟩) [(k : Int)] 1 1 (by rfl) rfl srcK hlen2.out (by decide) dP.size ?_; intro v2 wS own2 bS2 _ _; have dS : Below w3.heap.size w3 wS := dP.trans bS2; have hkS := keep4 dS hkb hka hkr k0 k1 k2 k3; obtain ⟨sb2, cap2, rfl, hge2, hlt2⟩ := ownN_shape own2 (by simp); have hS2 := seen_snoc hS3 own2 hge2 hlt2 hb3 hsl; have hOS := hO3.below dS; have dSw := d3.trans (dS.mono d3.size); have oS : Only bb w3 wS := Only.of_below dS)
                | (refine step_appN numInt (by rfl) _ _ (by rfl) w3.heap.size (.slice (some ⟨w3.heap.size, 0, none⟩) 0 0) [] (by rfl) (by first | with_reducible exact ownA | with_reducible exact ownN_below ownA (Below.refl _ _).drew) (some ⟨sb, so, none⟩) L L.length sc (by rfl) rfl (by first | with_reducible exact srcA | with_reducible exact SrcN.below srcA (Below.refl _ _).drew) hlen1.out (by decide) (by first | with_reducible exact dA.size | with_reducible exact dA.drew.size) ?_; intro v1 wP own1 bP gr1 _; have dP : Below w3.heap.size w3 wP := (by first | with_reducible exact dA.trans bP | with_reducible exact dA.drew.trans bP); have hkP := keep4 dP hkb hka hkr k0 k1 k2 k3; have hkPa := fun o => keep4 (dP.alloc dP.size o) hkb hka hkr k0 k1 k2 k3; have own1 : OwnN 3 .i64 w3.heap.size v1 L wP := own1)
                | (refine step_appN numInt (by rfl) _ _ (by rfl) w3.heap.size (.slice (some ⟨w3.heap.size, 0, none⟩) 0 0) [] (by rfl) (by first | with_reducible exact ownB | with_reducible exact ownN_below ownB (Below.refl _ _).drew) (some ⟨sb, so, none⟩) L L.length sc (by rfl) rfl (by first | with_reducible exact srcB | with_reducible exact SrcN.below srcB (Below.refl _ _).drew) hlen1.out (by decide) (by first | with_reducible exact dB2.size | with_reducible exact dB2.drew.size) ?_; intro v1 wP own1 bP gr1 _; have dP : Below w3.heap.size w3 wP := (by first | with_reducible exact dB2.trans bP | with_reducible exact dB2.drew.trans bP); have hkP := keep4 dP hkb hka hkr k0 k1 k2 k3; have hkPa := fun o => keep4 (dP.alloc dP.size o) hkb hka hkr k0 k1 k2 k3; have own1 : OwnN 3 .i64 w3.heap.size v1 L wP := own1; have srcK : SrcN .i64 (some ⟨w3.heap.size + 1, 0, none⟩) [(k : Int)] 1 wP := (by first | with_reducible exact srcN_grown kB gr1 (by first | (simp; done) | (simp; omega)) (by first | (simp [Value.ownBlock]; done) | (simp [Value.ownBlock]; omega)) | with_reducible exact srcN_grown (SrcN.below kB (Below.refl _ _).drew) gr1 (by first | (simp; done) | (simp; omega)) (by first | (simp [Value.ownBlock]; done) | (simp [Value.ownBlock]; omega))))
                | (refine step_appN numInt (by rfl) _ _ (by rfl) w3.heap.size (.slice (some ⟨w3.heap.size + 1, 0, none⟩) 0 0) [] (by rfl) (by first | with_reducible exact ownC | with_reducible exact ownN_below ownC (Below.refl _ _).drew) (some ⟨sb, so, none⟩) L L.length sc (by rfl) rfl (by first | with_reducible exact srcC | with_reducible exact SrcN.below srcC (Below.refl _ _).drew) hlen1.out (by decide) (by first | with_reducible exact dC.size | with_reducible exact dC.drew.size) ?_; intro v1 wP own1 bP gr1 _; have dP : Below w3.heap.size w3 wP := (by first | with_reducible exact dC.trans bP | with_reducible exact dC.drew.trans bP); have hkP := keep4 dP hkb hka hkr k0 k1 k2 k3; have hkPa := fun o => keep4 (dP.alloc dP.size o) hkb hka hkr k0 k1 k2 k3; have own1 : OwnN 3 .i64 w3.heap.size v1 L wP := own1; have srcK : SrcN .i64 (some ⟨w3.heap.size, 0, none⟩) [(k : Int)] 1 wP := (by first | with_reducible exact srcN_grown kC gr1 (by first | (simp; done) | (simp; omega)) (by first | (simp [Value.ownBlock]; done) | (simp [Value.ownBlock]; omega)) | with_reducible exact srcN_grown (SrcN.below kC (Below.refl _ _).drew) gr1 (by first | (simp; done) | (simp; omega)) (by first | (simp [Value.ownBlock]; done) | (simp [Value.ownBlock]; omega)))))
            all_goals
              have M9 := M3.only oN3 hb6n
              have o9 := o3.trans oN3
              go_wp2_with fail
              exact ⟨⟨k + 1, r2, by go_num, by omega, hON, o9, M9, hlt9.out _ hLN⟩, by simp [intOf]; omega⟩
        · have hN := hide (hsk9.out (fun h => hL0 (by have h1 := h.1; first | exact h1 | (simp only [hLk] at h1; exact h1))))
          go_wp2_with fail
          exact ⟨⟨k + 1, r, by go_num, by omega, hO3, o3, M3, hN⟩, by simp [intOf]; omega⟩
      · obtain rfl : k = 6 := by omega
        have hlt' : ¬ ((6 : Int) < 6) := by omega
        go_wp2_with fail
        go_end0
        exact ⟨rfl, r, hOr, oR, upto_all hLe.out⟩
  · rw [ho1] at ho0
    have hO1 : OutInt bb 6 6 (fun v => if v = p then min (o v) x else o v) (w.alloc (.cells #[.int .i64 g, .slice a m c] 58)) := hOX.congr9 fun i _ => by
      by_cases e : i = p
      · subst e; simp; omega
      · simp [e]
    have o1 := oX
    have M1 := MX
    have hxo : ¬ x < o p := hlt
    clear hOX oX MX hlt
    generalize hop : o p = op at *
    go_enter Try.func103, Try.ntmps103
    go_wp2_with fail
    clear ho0 ho2 hxo
    generalize w.alloc (.cells #[.int .i64 g, .slice a m c] 58) = wx at *
    generalize hb6 : w.heap.size = b6 at *
    go_loopw [12] (fun y wr => ∃ (k : Nat) (r : Nat → Int), y = .int .i64 k ∧ k ≤ 6 ∧ OutInt bb 6 6 r wr ∧ Only bb w wr ∧ Mut wr b6 [.int .i64 g, .slice a m c] ∧ Hid (Least (Upto (fun x y => lab9 f0 f1 f2 x y n) T p x s k) o r)) (fun y _ => 6 - (intOf y).toNat)
    case atStart => exact ⟨0, _, rfl, by omega, hO1, o1, M1, upto_zero o⟩
    case round =>
      clear hO1 o1 M1
      obtain ⟨k, r, rfl, hk, hOr, oR, MR, hLe⟩ := hrel
      have dB : Below w0.heap.size w0 wr := hB.trans ((oR.below (by rw [hb6]; exact hbb)).mono hw0)
      by_cases hlt : k < 6
      · have hlt' : (k : Int) < 6 := by omega
        have AR := hide (fun w A => s_arc9 ra n rc f0 f1 f2 (k : Int) (p : Int) w hNA.2.1 A)
        have hLm := lab9_lt hNA.2.2 hNA.1.2.2.1 (k : Int) (p : Int)
        have hSk := hS.2.1 k hlt
        have hsk9 := hide (fun h => upto_skip hLe.out (k := k) h)
        have htk9 := hide (fun h1 h2 q h3 => upto_take hLe.out (k := k) (q := q) h1 h2 h3)
        have HS := hide (fun w R => s_l1Has (some ⟨sb, so, none⟩) L sc (k : Int) w (by have := hS.2.2.2.2; omega) R)
        generalize hLk : lab9 f0 f1 f2 (k : Int) (p : Int) n = Lk at *
        go_wp2_with fail
        refine (AR.out _ (hA.below dB)).mono ?_
        rintro e w3 ⟨rfl, b3⟩
        have o3 := oR.trans (Only.of_below b3)
        have hO3 := hOr.below b3
        have M3 := MR.below b3
        have d3 := dB.trans (b3.mono dB.size)
        have hS3 := hS.only o3
        clear oR hOr MR dB b3 hLe
        by_cases hL0 : Lk ≥ 0
        · cases hh : hasN L (k : Int) with
          | true =>
            rw [hh] at HS hSk
            have hN := hide (hsk9.out (fun h => by rw [hSk] at h; cases h.2))
            go_wp2_with fail
            refine (HS.out _ hS3.1).mono ?_
            rintro e w4 ⟨rfl, hw4⟩
            rw [hw4]; clear hw4 w4
            go_wp2_with fail
            exact ⟨⟨k + 1, r, by go_num, by omega, hO3, o3, M3, hN⟩, by simp [intOf]; omega⟩
          | false =>
            rw [hh] at HS hSk
            obtain ⟨l, rfl⟩ := Int.eq_ofNat_of_zero_le (show 0 ≤ Lk by omega)
            obtain ⟨xn, rfl⟩ := Int.eq_ofNat_of_zero_le hx0
            have hlm : l < m := by omega
            have hll : (l : Int) < (m : Int) := by omega
            have hrow := hNA.1.2.2.2.2 l hlm
            have hap := ap9_ok hNA.1 (k := (l : Int)) (x := (xn : Int)) (by omega) (by omega) hx0 hx1
            have hap' : 0 ≤ (T l).f xn ∧ (T l).f xn < g := hap
            have hxl : (xn : Int) < ((T l).n : Int) := by have := hrow.1; omega
            obtain ⟨ab, ao, a0, q0, ha, hab, hcb, hro⟩ := hR l hlm
            subst ha
            obtain ⟨rb, ro, hae, hrb, hcr⟩ := hro xn (by omega)
            subst hae
            have k0 := M3.2.1 0 _ rfl
            have k1 := M3.2.1 1 _ rfl
            have k2 := (d3.cell (p := ⟨ab, ao + l, none⟩) hab).trans hcb
            have k3 := (d3.cell (p := ⟨rb, ro + xn, none⟩) hrb).trans hcr
            have hkb : b6 < w3.heap.size := M3.1
            have hka : ab < w3.heap.size := Nat.lt_of_lt_of_le hab d3.size
            have hkr : rb < w3.heap.size := Nat.lt_of_lt_of_le hrb d3.size
            have hsl := left9_lt hlt hSk
            have hb3 : bb < w3.heap.size := hO3.1
            have hlt9 := hide (htk9.out (by first | exact hL0 | (simp only [hLk]; exact hL0)) hSk)
            go_wp2_with fail
            refine (HS.out _ hS3.1).mono ?_
            rintro e w4 ⟨rfl, hw4⟩
            rw [hw4]; clear hw4 w4
            go_wp2_with fail
            have dZ : Below w3.heap.size w3 w3 := Below.refl _ _
            have dA : Below w3.heap.size w3 (w3.alloc (.cells #[] 3)) := below_box (Below.refl _ _)
            have dB2 : Below w3.heap.size w3 ((w3.alloc (.cells #[] 3)).alloc (.cells #[.int .i64 (k : Int)] 3)) := below_box2 (Below.refl _ _)
            have dC : Below w3.heap.size w3 ((w3.alloc (.cells #[.int .i64 (k : Int)] 3)).alloc (.cells #[] 3)) := below_box2 (Below.refl _ _)
            have ownA : OwnN 3 .i64 w3.heap.size (.slice (some ⟨w3.heap.size, 0, none⟩) 0 0) [] (w3.alloc (.cells #[] 3)) := World.ownsRow_made w3 #[] 0 (Nat.le_refl _) (by decide) rfl
            have ownB := ownN_below ownA (below_box (o := (.cells #[.int .i64 (k : Int)] 3)) (Below.refl _ _))
            have ownC : OwnN 3 .i64 w3.heap.size (.slice (some ⟨w3.heap.size + 1, 0, none⟩) 0 0) [] ((w3.alloc (.cells #[.int .i64 (k : Int)] 3)).alloc (.cells #[] 3)) := by
              have := World.ownsRow_made (e := 3) (size := 1) (base := w3.heap.size) (w3.alloc (.cells #[.int .i64 (k : Int)] 3)) #[] 0 (by simp) (by decide) rfl
              unfold OwnN
              simpa [ncells] using this
            have srcA : SrcN .i64 (some ⟨sb, so, none⟩) L sc (w3.alloc (.cells #[] 3)) := ⟨hS3.1.below dA, .inr ⟨_, _, rfl⟩⟩
            have srcB : SrcN .i64 (some ⟨sb, so, none⟩) L sc ((w3.alloc (.cells #[] 3)).alloc (.cells #[.int .i64 (k : Int)] 3)) := ⟨hS3.1.below dB2, .inr ⟨_, _, rfl⟩⟩
            have srcC : SrcN .i64 (some ⟨sb, so, none⟩) L sc ((w3.alloc (.cells #[.int .i64 (k : Int)] 3)).alloc (.cells #[] 3)) := ⟨hS3.1.below dC, .inr ⟨_, _, rfl⟩⟩
            have kB : SrcN .i64 (some ⟨w3.heap.size + 1, 0, none⟩) [(k : Int)] 1 ((w3.alloc (.cells #[] 3)).alloc (.cells #[.int .i64 (k : Int)] 3)) := by
              have := srcN1 (w3.alloc (.cells #[] 3)) (k : Int) 3
              simpa using this
            have kC : SrcN .i64 (some ⟨w3.heap.size, 0, none⟩) [(k : Int)] 1 ((w3.alloc (.cells #[.int .i64 (k : Int)] 3)).alloc (.cells #[] 3)) := (srcN1 w3 (k : Int) 3).below (below_box (Below.refl _ _))
            have hL6 : L.length ≤ 6 := by have := hS3.2.2.2.2; omega
            have hlen1 : Hid (([] : List Int).length + L.length ≤ 8589934593) := by show _ ≤ _; simp; omega
            have hlen2 : Hid (L.length + [(k : Int)].length ≤ 8589934593) := by show _ ≤ _; simp; omega
            have hb6n : b6 ≠ bb := by omega
            have habn : ab ≠ bb := by omega
            have hrbn : rb ≠ bb := by omega
            have hkZ := keep4 dZ.drew hkb hka hkr k0 k1 k2 k3
            have hkZA := fun o => keep4 (dZ.alloc dZ.size o) hkb hka hkr k0 k1 k2 k3
            have hkZAd := fun o => keep4 (dZ.alloc dZ.size o).drew hkb hka hkr k0 k1 k2 k3
            have hkZB := fun o o' => keep4 (below_box2 (o := o) (o' := o') (Below.refl _ _)) hkb hka hkr k0 k1 k2 k3
            have hkZBd := fun o o' => keep4 (below_box2 (o := o) (o' := o') (Below.refl _ _)).drew hkb hka hkr k0 k1 k2 k3
            go_region_held3 (fun w' => w'.cell? ⟨b6, 0, none⟩ = some (.int .i64 g) ∧ w'.cell? ⟨b6, 1, none⟩ = some (.slice (some ⟨ab, ao, none⟩) m c) ∧ w'.cell? ⟨ab, ao + l, none⟩ = some (.slice (some ⟨rb, ro, none⟩) (T l).n q0) ∧ w'.cell? ⟨rb, ro + xn, none⟩ = some (.int .i64 ((T l).f xn))) (first | with_reducible exact hkN | with_reducible exact hkS | with_reducible exact hkP | with_reducible exact hkPa _ | with_reducible exact hkZ | with_reducible exact hkZA _ | with_reducible exact hkZAd _ | with_reducible exact hkZB _ _ | with_reducible exact hkZBd _ _)
              (first
                | (go_at_call 103; refine (IH.out _ (Nat.lt_of_lt_of_le hsl hu) k ((T l).f xn) _ r (L ++ [(k : Int)]) sb2 0 _ cap2 _ (by simp) (Nat.le_refl _) hlt hap'.1 hap'.2 (by first | with_reducible exact dSw | with_reducible exact dSw.drew) (by first | with_reducible exact hS2 | with_reducible exact hS2.only (Only.of_below (Below.refl _ _).drew)) (by first | with_reducible exact hOS | with_reducible exact hOS.below (Below.refl _ _).drew)).mono ?_; rintro e wN ⟨rfl, r2, hON, oN, hLN⟩; have oN3 : Only bb w3 wN := (by first | with_reducible exact oS.trans oN | with_reducible exact (oS.trans (Only.of_below (Below.refl _ _).drew)).trans oN); have hkN := keep4o oN3 hb6n habn hrbn hkb hka hkr k0 k1 k2 k3)
                | (have hq := own1; refine step_appN numInt (by rfl) _ _ (by rfl) w3.heap.size v1 L (by rfl) (by first | with_reducible exact ownN_below own1 (below_box (Below.refl _ _)) | with_reducible exact ownN_below own1 (below_box (Below.refl _ _)).drew) (some ⟨wP.heap.size, 0, none⟩) [(k : Int)] 1 1 (by rfl) rfl (by first | with_reducible exact srcN1 wP (k : Int) 3 | with_reducible exact SrcN.below (srcN1 wP (k : Int) 3) (Below.refl _ _).drew) hlen2.out (by decide) (dP.alloc dP.size _).size ?_; intro v2 wS own2 bS2 _ _; have dS : Below w3.heap.size w3 wS := (dP.alloc dP.size _).trans bS2; have hkS := keep4 dS hkb hka hkr k0 k1 k2 k3; obtain ⟨sb2, cap2, rfl, hge2, hlt2⟩ := ownN_shape own2 (by simp); have hS2 := seen_snoc hS3 own2 hge2 hlt2 hb3 hsl; have hOS := hO3.below dS; have dSw := d3.trans (dS.mono d3.size); have oS : Only bb w3 wS := Only.of_below dS)
                | (have hq := srcK; refine step_appN numInt (by rfl) _ _ (by rfl) w3.heap.size v1 L (by rfl) own1 (some ⟨w3.heap.size + 1, 0, none⟩) [(k : Int)] 1 1 (by rfl) rfl srcK hlen2.out (by decide) dP.size ?_; intro v2 wS own2 bS2 _ _; have dS : Below w3.heap.size w3 wS := dP.trans bS2; have hkS := keep4 dS hkb hka hkr k0 k1 k2 k3; obtain ⟨sb2, cap2, rfl, hge2, hlt2⟩ := ownN_shape own2 (by simp); have hS2 := seen_snoc hS3 own2 hge2 hlt2 hb3 hsl; have hOS := hO3.below dS; have dSw := d3.trans (dS.mono d3.size); have oS : Only bb w3 wS := Only.of_below dS)
                | (have hq := srcK; refine step_appN numInt (by rfl) _ _ (by rfl) w3.heap.size v1 L (by rfl) own1 (some ⟨w3.heap.size, 0, none⟩) [(k : Int)] 1 1 (by rfl) rfl srcK hlen2.out (by decide) dP.size ?_; intro v2 wS own2 bS2 _ _; have dS : Below w3.heap.size w3 wS := dP.trans bS2; have hkS := keep4 dS hkb hka hkr k0 k1 k2 k3; obtain ⟨sb2, cap2, rfl, hge2, hlt2⟩ := ownN_shape own2 (by simp); have hS2 := seen_snoc hS3 own2 hge2 hlt2 hb3 hsl; have hOS := hO3.below dS; have dSw := d3.trans (dS.mono d3.size); have oS : Only bb w3 wS := Only.of_below dS)
                | (refine step_appN numInt (by rfl) _ _ (by rfl) w3.heap.size (.slice (some ⟨w3.heap.size, 0, none⟩) 0 0) [] (by rfl) (by first | with_reducible exact ownA | with_reducible exact ownN_below ownA (Below.refl _ _).drew) (some ⟨sb, so, none⟩) L L.length sc (by rfl) rfl (by first | with_reducible exact srcA | with_reducible exact SrcN.below srcA (Below.refl _ _).drew) hlen1.out (by decide) (by first | with_reducible exact dA.size | with_reducible exact dA.drew.size) ?_; intro v1 wP own1 bP gr1 _; have dP : Below w3.heap.size w3 wP := (by first | with_reducible exact dA.trans bP | with_reducible exact dA.drew.trans bP); have hkP := keep4 dP hkb hka hkr k0 k1 k2 k3; have hkPa := fun o => keep4 (dP.alloc dP.size o) hkb hka hkr k0 k1 k2 k3; have own1 : OwnN 3 .i64 w3.heap.size v1 L wP := own1)
                | (refine step_appN numInt (by rfl) _ _ (by rfl) w3.heap.size (.slice (some ⟨w3.heap.size, 0, none⟩) 0 0) [] (by rfl) (by first | with_reducible exact ownB | with_reducible exact ownN_below ownB (Below.refl _ _).drew) (some ⟨sb, so, none⟩) L L.length sc (by rfl) rfl (by first | with_reducible exact srcB | with_reducible exact SrcN.below srcB (Below.refl _ _).drew) hlen1.out (by decide) (by first | with_reducible exact dB2.size | with_reducible exact dB2.drew.size) ?_; intro v1 wP own1 bP gr1 _; have dP : Below w3.heap.size w3 wP := (by first | with_reducible exact dB2.trans bP | with_reducible exact dB2.drew.trans bP); have hkP := keep4 dP hkb hka hkr k0 k1 k2 k3; have hkPa := fun o => keep4 (dP.alloc dP.size o) hkb hka hkr k0 k1 k2 k3; have own1 : OwnN 3 .i64 w3.heap.size v1 L wP := own1; have srcK : SrcN .i64 (some ⟨w3.heap.size + 1, 0, none⟩) [(k : Int)] 1 wP := (by first | with_reducible exact srcN_grown kB gr1 (by first | (simp; done) | (simp; omega)) (by first | (simp [Value.ownBlock]; done) | (simp [Value.ownBlock]; omega)) | with_reducible exact srcN_grown (SrcN.below kB (Below.refl _ _).drew) gr1 (by first | (simp; done) | (simp; omega)) (by first | (simp [Value.ownBlock]; done) | (simp [Value.ownBlock]; omega))))
                | (refine step_appN numInt (by rfl) _ _ (by rfl) w3.heap.size (.slice (some ⟨w3.heap.size + 1, 0, none⟩) 0 0) [] (by rfl) (by first | with_reducible exact ownC | with_reducible exact ownN_below ownC (Below.refl _ _).drew) (some ⟨sb, so, none⟩) L L.length sc (by rfl) rfl (by first | with_reducible exact srcC | with_reducible exact SrcN.below srcC (Below.refl _ _).drew) hlen1.out (by decide) (by first | with_reducible exact dC.size | with_reducible exact dC.drew.size) ?_; intro v1 wP own1 bP gr1 _; have dP : Below w3.heap.size w3 wP := (by first | with_reducible exact dC.trans bP | with_reducible exact dC.drew.trans bP); have hkP := keep4 dP hkb hka hkr k0 k1 k2 k3; have hkPa := fun o => keep4 (dP.alloc dP.size o) hkb hka hkr k0 k1 k2 k3; have own1 : OwnN 3 .i64 w3.heap.size v1 L wP := own1; have srcK : SrcN .i64 (some ⟨w3.heap.size, 0, none⟩) [(k : Int)] 1 wP := (by first | with_reducible exact srcN_grown kC gr1 (by first | (simp; done) | (simp; omega)) (by first | (simp [Value.ownBlock]; done) | (simp [Value.ownBlock]; omega)) | with_reducible exact srcN_grown (SrcN.below kC (Below.refl _ _).drew) gr1 (by first | (simp; done) | (simp; omega)) (by first | (simp [Value.ownBlock]; done) | (simp [Value.ownBlock]; omega)))))
            all_goals
              have M9 := M3.only oN3 hb6n
              have o9 := o3.trans oN3
              go_wp2_with fail
              exact ⟨⟨k + 1, r2, by go_num, by omega, hON, o9, M9, hlt9.out _ hLN⟩, by simp [intOf]; omega⟩
        · have hN := hide (hsk9.out (fun h => hL0 (by have h1 := h.1; first | exact h1 | (simp only [hLk] at h1; exact h1))))
          go_wp2_with fail
          exact ⟨⟨k + 1, r, by go_num, by omega, hO3, o3, M3, hN⟩, by simp [intOf]; omega⟩
      · obtain rfl : k = 6 := by omega
        have hlt' : ¬ ((6 : Int) < 6) := by omega
        go_wp2_with fail
        go_end0
        exact ⟨rfl, r, hOr, oR, upto_all hLe.out⟩
end Go.Proofs.Ytcnlabedlcmilaa
