/- CompareOffers of the specification and of the program. -/
import Derived.Test.YtgkjokobbeahfaaS8b
import Derived.Test.YtgkjokobbeahfaaI8a
namespace Go.Proofs.Ytgkjokobbeahfaa
open Go.RowKit

def cmK (t u : Oc) : Bool := ofB t && ofB u
def cmV (t u : Oc) : Int := if cmK t u = true then cmpO t u else 0
theorem os_one (t : Oc) : osB 1 (fun _ => t) = ofB t := by
  unfold osB
  simp [stO]
theorem rowO_one {w : World} {b : Nat} {t : Oc} {a0 : Option Addr} {c0 : Nat} {a1 : Option Addr} {c1 : Nat} (h : Mut w b [.int .i64 t.pe, .int .i64 t.o, .slice a0 t.n0 c0, .int .i64 t.nx, .int .i64 t.md, .int .i64 t.pf, .slice a1 t.n1 c1]) (hi : OfIn a0 a1 t w) : RowO (some ⟨b, 0, none⟩) 1 (fun _ => t) w := by
  intro i hlt
  obtain rfl : i = 0 := by omega
  exact ⟨b, 0, a0, c0, a1, c1, rfl, h.1, h.2.1 0 _ rfl, h.2.1 1 _ rfl, h.2.1 2 _ rfl, h.2.1 3 _ rfl, h.2.1 4 _ rfl, h.2.1 5 _ rfl, h.2.1 6 _ rfl, hi⟩
set_option maxRecDepth 100000 in
set_option maxHeartbeats 1600000 in
theorem i_cmpOffers (a0 : Option Addr) (c0 : Nat) (a1 : Option Addr) (c1 : Nat) (t : Oc) (b0 : Option Addr) (e0 : Nat) (b1 : Option Addr) (e1 : Nat) (u : Oc) (w : World) (h0 : t.n0 ≤ 1048576) (h1 : t.n1 ≤ 1048576) (h2 : u.n0 ≤ 1048576) (h3 : u.n1 ≤ 1048576) (hT : OfIn a0 a1 t w) (hU : OfIn b0 b1 u w) :
    Calls Try.prog 22 #[.agg #[.int .i64 t.pe, .int .i64 t.o, .slice a0 t.n0 c0, .int .i64 t.nx, .int .i64 t.md, .int .i64 t.pf, .slice a1 t.n1 c1], .agg #[.int .i64 u.pe, .int .i64 u.o, .slice b0 u.n0 e0, .int .i64 u.nx, .int .i64 u.md, .int .i64 u.pf, .slice b1 u.n1 e1]] w fun e w' => e = .returned (.tuple #[.int .i64 (cmV t u), .bool (cmK t u)]) ∧ Below w.heap.size w w' := by
  have G0 := hide (fun w R => i_goodOffer a0 c0 a1 c1 t w h0 h1 R)
  have G1 := hide (fun w R => i_goodOffer b0 e0 b1 e1 u w h2 h3 R)
  have C := hide (fun w => i_orderO a0 c0 a1 c1 t b0 e0 b1 e1 u w)
  have M0 := (Mut.new w #[.int .i64 t.pe, .int .i64 t.o, .slice a0 t.n0 c0, .int .i64 t.nx, .int .i64 t.md, .int .i64 t.pf, .slice a1 t.n1 c1] 39).alloc (.cells #[.int .i64 u.pe, .int .i64 u.o, .slice b0 u.n0 e0, .int .i64 u.nx, .int .i64 u.md, .int .i64 u.pf, .slice b1 u.n1 e1] 39)
  have M1 := Mut.new (w.alloc (.cells #[.int .i64 t.pe, .int .i64 t.o, .slice a0 t.n0 c0, .int .i64 t.nx, .int .i64 t.md, .int .i64 t.pf, .slice a1 t.n1 c1] 39)) #[.int .i64 u.pe, .int .i64 u.o, .slice b0 u.n0 e0, .int .i64 u.nx, .int .i64 u.md, .int .i64 u.pf, .slice b1 u.n1 e1] 39
  rw [World.size_alloc] at M1
  have d0 : Below w.heap.size w ((w.alloc (.cells #[.int .i64 t.pe, .int .i64 t.o, .slice a0 t.n0 c0, .int .i64 t.nx, .int .i64 t.md, .int .i64 t.pf, .slice a1 t.n1 c1] 39)).alloc (.cells #[.int .i64 u.pe, .int .i64 u.o, .slice b0 u.n0 e0, .int .i64 u.nx, .int .i64 u.md, .int .i64 u.pf, .slice b1 u.n1 e1] 39)) := below_box2 (Below.refl _ _)
  have eK : cmK t u = (ofB t && ofB u) := rfl
  have eV : cmV t u = if (ofB t && ofB u) = true then cmpO t u else 0 := rfl
  rw [eK, eV]
  clear eK eV h0 h1 h2 h3
  generalize cmpO t u = r at *
  cases hg : ofB t with
  | false =>
    rw [hg] at G0
    clear hg
    go_enter Try.func22, Try.ntmps22
    go_wp2_with fail
    generalize (w.alloc (.cells #[.int .i64 t.pe, .int .i64 t.o, .slice a0 t.n0 c0, .int .i64 t.nx, .int .i64 t.md, .int .i64 t.pf, .slice a1 t.n1 c1] 39)).alloc (.cells #[.int .i64 u.pe, .int .i64 u.o, .slice b0 u.n0 e0, .int .i64 u.nx, .int .i64 u.md, .int .i64 u.pf, .slice b1 u.n1 e1] 39) = w0 at *
    have u0 := M0.2.1 0 _ rfl
    have u1 := M0.2.1 1 _ rfl
    have u2 := M0.2.1 2 _ rfl
    have u3 := M0.2.1 3 _ rfl
    have u4 := M0.2.1 4 _ rfl
    have u5 := M0.2.1 5 _ rfl
    have u6 := M0.2.1 6 _ rfl
    go_wp2_with fail
    refine (G0.out _ (hT.below d0)).mono ?_
    rintro e w1 ⟨rfl, b1⟩
    replace d0 := d0.trans (b1.mono d0.size)
    replace M0 := M0.below b1
    replace M1 := M1.below b1
    clear b1 u0 u1 u2 u3 u4 u5 u6
    go_wp2_with fail
    go_ret2
    exact ⟨rfl, d0⟩
  | true =>
    rw [hg] at G0
    cases hh : ofB u with
    | false =>
      rw [hh] at G1
      clear hg hh
      go_enter Try.func22, Try.ntmps22
      go_wp2_with fail
      generalize (w.alloc (.cells #[.int .i64 t.pe, .int .i64 t.o, .slice a0 t.n0 c0, .int .i64 t.nx, .int .i64 t.md, .int .i64 t.pf, .slice a1 t.n1 c1] 39)).alloc (.cells #[.int .i64 u.pe, .int .i64 u.o, .slice b0 u.n0 e0, .int .i64 u.nx, .int .i64 u.md, .int .i64 u.pf, .slice b1 u.n1 e1] 39) = w0 at *
      have u0 := M0.2.1 0 _ rfl
      have u1 := M0.2.1 1 _ rfl
      have u2 := M0.2.1 2 _ rfl
      have u3 := M0.2.1 3 _ rfl
      have u4 := M0.2.1 4 _ rfl
      have u5 := M0.2.1 5 _ rfl
      have u6 := M0.2.1 6 _ rfl
      go_wp2_with fail
      refine (G0.out _ (hT.below d0)).mono ?_
      rintro e w1 ⟨rfl, b1⟩
      replace d0 := d0.trans (b1.mono d0.size)
      replace M0 := M0.below b1
      replace M1 := M1.below b1
      clear b1 u0 u1 u2 u3 u4 u5 u6
      have v0 := M1.2.1 0 _ rfl
      have v1 := M1.2.1 1 _ rfl
      have v2 := M1.2.1 2 _ rfl
      have v3 := M1.2.1 3 _ rfl
      have v4 := M1.2.1 4 _ rfl
      have v5 := M1.2.1 5 _ rfl
      have v6 := M1.2.1 6 _ rfl
      go_wp2_with fail
      refine (G1.out _ (hU.below d0)).mono ?_
      rintro e w2 ⟨rfl, b2⟩
      replace d0 := d0.trans (b2.mono d0.size)
      replace M0 := M0.below b2
      replace M1 := M1.below b2
      clear b2 v0 v1 v2 v3 v4 v5 v6
      go_wp2_with fail
      go_ret2
      exact ⟨rfl, d0⟩
    | true =>
      rw [hh] at G1
      clear hg hh
      go_enter Try.func22, Try.ntmps22
      go_wp2_with fail
      generalize (w.alloc (.cells #[.int .i64 t.pe, .int .i64 t.o, .slice a0 t.n0 c0, .int .i64 t.nx, .int .i64 t.md, .int .i64 t.pf, .slice a1 t.n1 c1] 39)).alloc (.cells #[.int .i64 u.pe, .int .i64 u.o, .slice b0 u.n0 e0, .int .i64 u.nx, .int .i64 u.md, .int .i64 u.pf, .slice b1 u.n1 e1] 39) = w0 at *
      have u0 := M0.2.1 0 _ rfl
      have u1 := M0.2.1 1 _ rfl
      have u2 := M0.2.1 2 _ rfl
      have u3 := M0.2.1 3 _ rfl
      have u4 := M0.2.1 4 _ rfl
      have u5 := M0.2.1 5 _ rfl
      have u6 := M0.2.1 6 _ rfl
      go_wp2_with fail
      refine (G0.out _ (hT.below d0)).mono ?_
      rintro e w1 ⟨rfl, b1⟩
      replace d0 := d0.trans (b1.mono d0.size)
      replace M0 := M0.below b1
      replace M1 := M1.below b1
      clear b1 u0 u1 u2 u3 u4 u5 u6
      have v0 := M1.2.1 0 _ rfl
      have v1 := M1.2.1 1 _ rfl
      have v2 := M1.2.1 2 _ rfl
      have v3 := M1.2.1 3 _ rfl
      have v4 := M1.2.1 4 _ rfl
      have v5 := M1.2.1 5 _ rfl
      have v6 := M1.2.1 6 _ rfl
      go_wp2_with fail
      refine (G1.out _ (hU.below d0)).mono ?_
      rintro e w2 ⟨rfl, b2⟩
      replace d0 := d0.trans (b2.mono d0.size)
      replace M0 := M0.below b2
      replace M1 := M1.below b2
      clear b2 v0 v1 v2 v3 v4 v5 v6
      have u0 := M0.2.1 0 _ rfl
      have v0 := M1.2.1 0 _ rfl
      have u1 := M0.2.1 1 _ rfl
      have v1 := M1.2.1 1 _ rfl
      have u2 := M0.2.1 2 _ rfl
      have v2 := M1.2.1 2 _ rfl
      have u3 := M0.2.1 3 _ rfl
      have v3 := M1.2.1 3 _ rfl
      have u4 := M0.2.1 4 _ rfl
      have v4 := M1.2.1 4 _ rfl
      have u5 := M0.2.1 5 _ rfl
      have v5 := M1.2.1 5 _ rfl
      have u6 := M0.2.1 6 _ rfl
      have v6 := M1.2.1 6 _ rfl
      go_wp2_with fail
      refine (C.out _).mono ?_
      rintro e w3 ⟨rfl, b3⟩
      go_wp2_with fail
      go_ret2
      exact ⟨rfl, d0.trans (b3.1.mono d0.size)⟩
set_option maxRecDepth 100000 in
set_option maxHeartbeats 1600000 in
theorem s_cmpOffers (a0 : Option Addr) (c0 : Nat) (a1 : Option Addr) (c1 : Nat) (t : Oc) (b0 : Option Addr) (e0 : Nat) (b1 : Option Addr) (e1 : Nat) (u : Oc) (w : World) (h0 : t.n0 ≤ 1048576) (h1 : t.n1 ≤ 1048576) (h2 : u.n0 ≤ 1048576) (h3 : u.n1 ≤ 1048576) (hT : OfIn a0 a1 t w) (hU : OfIn b0 b1 u w) :
    Calls Try.prog 20 #[.agg #[.int .i64 t.pe, .int .i64 t.o, .slice a0 t.n0 c0, .int .i64 t.nx, .int .i64 t.md, .int .i64 t.pf, .slice a1 t.n1 c1], .agg #[.int .i64 u.pe, .int .i64 u.o, .slice b0 u.n0 e0, .int .i64 u.nx, .int .i64 u.md, .int .i64 u.pf, .slice b1 u.n1 e1]] w fun e w' => e = .returned (.tuple #[.int .i64 (cmV t u), .bool (cmK t u)]) ∧ Below w.heap.size w w' := by
  have G0 := hide (fun b c w R => s_goodOffers (some ⟨b, 0, none⟩) 1 c (fun _ => t) w (by omega) (fun i _ => ⟨h0, h1⟩) R)
  have G1 := hide (fun b c w R => s_goodOffers (some ⟨b, 0, none⟩) 1 c (fun _ => u) w (by omega) (fun i _ => ⟨h2, h3⟩) R)
  rw [os_one] at G0 G1
  have C := hide (fun w => s_compareO a0 c0 a1 c1 t b0 e0 b1 e1 u w)
  have M0 := (Mut.new w #[.int .i64 t.pe, .int .i64 t.o, .slice a0 t.n0 c0, .int .i64 t.nx, .int .i64 t.md, .int .i64 t.pf, .slice a1 t.n1 c1] 39).alloc (.cells #[.int .i64 u.pe, .int .i64 u.o, .slice b0 u.n0 e0, .int .i64 u.nx, .int .i64 u.md, .int .i64 u.pf, .slice b1 u.n1 e1] 39)
  have M1 := Mut.new (w.alloc (.cells #[.int .i64 t.pe, .int .i64 t.o, .slice a0 t.n0 c0, .int .i64 t.nx, .int .i64 t.md, .int .i64 t.pf, .slice a1 t.n1 c1] 39)) #[.int .i64 u.pe, .int .i64 u.o, .slice b0 u.n0 e0, .int .i64 u.nx, .int .i64 u.md, .int .i64 u.pf, .slice b1 u.n1 e1] 39
  rw [World.size_alloc] at M1
  have d0 : Below w.heap.size w ((w.alloc (.cells #[.int .i64 t.pe, .int .i64 t.o, .slice a0 t.n0 c0, .int .i64 t.nx, .int .i64 t.md, .int .i64 t.pf, .slice a1 t.n1 c1] 39)).alloc (.cells #[.int .i64 u.pe, .int .i64 u.o, .slice b0 u.n0 e0, .int .i64 u.nx, .int .i64 u.md, .int .i64 u.pf, .slice b1 u.n1 e1] 39)) := below_box2 (Below.refl _ _)
  have eK : cmK t u = (ofB t && ofB u) := rfl
  have eV : cmV t u = if (ofB t && ofB u) = true then cmpO t u else 0 := rfl
  rw [eK, eV]
  clear eK eV h0 h1 h2 h3
  generalize cmpO t u = r at *
  cases hg : ofB t with
  | false =>
    rw [hg] at G0
    clear hg
    have hz : ((w.alloc (.cells #[.int .i64 t.pe, .int .i64 t.o, .slice a0 t.n0 c0, .int .i64 t.nx, .int .i64 t.md, .int .i64 t.pf, .slice a1 t.n1 c1] 39)).alloc (.cells #[.int .i64 u.pe, .int .i64 u.o, .slice b0 u.n0 e0, .int .i64 u.nx, .int .i64 u.md, .int .i64 u.pf, .slice b1 u.n1 e1] 39)).heap.size = w.heap.size + 1 + 1 := by simp
    go_enter Try.func20, Try.ntmps20
    go_wp2_with fail
    generalize (w.alloc (.cells #[.int .i64 t.pe, .int .i64 t.o, .slice a0 t.n0 c0, .int .i64 t.nx, .int .i64 t.md, .int .i64 t.pf, .slice a1 t.n1 c1] 39)).alloc (.cells #[.int .i64 u.pe, .int .i64 u.o, .slice b0 u.n0 e0, .int .i64 u.nx, .int .i64 u.md, .int .i64 u.pf, .slice b1 u.n1 e1] 39) = w0 at *
    have u0 := M0.2.1 0 _ rfl
    have u1 := M0.2.1 1 _ rfl
    have u2 := M0.2.1 2 _ rfl
    have u3 := M0.2.1 3 _ rfl
    have u4 := M0.2.1 4 _ rfl
    have u5 := M0.2.1 5 _ rfl
    have u6 := M0.2.1 6 _ rfl
    go_wp2_with fail
    have N := Mut.new w0 #[.int .i64 t.pe, .int .i64 t.o, .slice a0 t.n0 c0, .int .i64 t.nx, .int .i64 t.md, .int .i64 t.pf, .slice a1 t.n1 c1] 39
    rw [hz] at N
    clear hz
    have bB : Below w0.heap.size w0 (w0.alloc (.cells #[.int .i64 t.pe, .int .i64 t.o, .slice a0 t.n0 c0, .int .i64 t.nx, .int .i64 t.md, .int .i64 t.pf, .slice a1 t.n1 c1] 39)) := below_box (Below.refl _ _)
    replace d0 := d0.trans (bB.mono d0.size)
    replace M0 := M0.below bB
    replace M1 := M1.below bB
    clear bB
    refine (G0.out _ _ _ (rowO_one N (hT.below d0))).mono ?_
    rintro e w1 ⟨rfl, b1⟩
    replace d0 := d0.trans (b1.mono d0.size)
    replace M0 := M0.below b1
    replace M1 := M1.below b1
    clear b1 u0 u1 u2 u3 u4 u5 u6
    clear N
    go_wp2_with fail
    go_ret2
    exact ⟨rfl, d0⟩
  | true =>
    rw [hg] at G0
    cases hh : ofB u with
    | false =>
      rw [hh] at G1
      clear hg hh
      have hz : ((w.alloc (.cells #[.int .i64 t.pe, .int .i64 t.o, .slice a0 t.n0 c0, .int .i64 t.nx, .int .i64 t.md, .int .i64 t.pf, .slice a1 t.n1 c1] 39)).alloc (.cells #[.int .i64 u.pe, .int .i64 u.o, .slice b0 u.n0 e0, .int .i64 u.nx, .int .i64 u.md, .int .i64 u.pf, .slice b1 u.n1 e1] 39)).heap.size = w.heap.size + 1 + 1 := by simp
      go_enter Try.func20, Try.ntmps20
      go_wp2_with fail
      generalize (w.alloc (.cells #[.int .i64 t.pe, .int .i64 t.o, .slice a0 t.n0 c0, .int .i64 t.nx, .int .i64 t.md, .int .i64 t.pf, .slice a1 t.n1 c1] 39)).alloc (.cells #[.int .i64 u.pe, .int .i64 u.o, .slice b0 u.n0 e0, .int .i64 u.nx, .int .i64 u.md, .int .i64 u.pf, .slice b1 u.n1 e1] 39) = w0 at *
      have u0 := M0.2.1 0 _ rfl
      have u1 := M0.2.1 1 _ rfl
      have u2 := M0.2.1 2 _ rfl
      have u3 := M0.2.1 3 _ rfl
      have u4 := M0.2.1 4 _ rfl
      have u5 := M0.2.1 5 _ rfl
      have u6 := M0.2.1 6 _ rfl
      go_wp2_with fail
      have N := Mut.new w0 #[.int .i64 t.pe, .int .i64 t.o, .slice a0 t.n0 c0, .int .i64 t.nx, .int .i64 t.md, .int .i64 t.pf, .slice a1 t.n1 c1] 39
      rw [hz] at N
      clear hz
      have bB : Below w0.heap.size w0 (w0.alloc (.cells #[.int .i64 t.pe, .int .i64 t.o, .slice a0 t.n0 c0, .int .i64 t.nx, .int .i64 t.md, .int .i64 t.pf, .slice a1 t.n1 c1] 39)) := below_box (Below.refl _ _)
      replace d0 := d0.trans (bB.mono d0.size)
      replace M0 := M0.below bB
      replace M1 := M1.below bB
      clear bB
      refine (G0.out _ _ _ (rowO_one N (hT.below d0))).mono ?_
      rintro e w1 ⟨rfl, b1⟩
      replace d0 := d0.trans (b1.mono d0.size)
      replace M0 := M0.below b1
      replace M1 := M1.below b1
      clear b1 u0 u1 u2 u3 u4 u5 u6
      clear N
      have v0 := M1.2.1 0 _ rfl
      have v1 := M1.2.1 1 _ rfl
      have v2 := M1.2.1 2 _ rfl
      have v3 := M1.2.1 3 _ rfl
      have v4 := M1.2.1 4 _ rfl
      have v5 := M1.2.1 5 _ rfl
      have v6 := M1.2.1 6 _ rfl
      go_wp2_with fail
      have N := Mut.new w1 #[.int .i64 u.pe, .int .i64 u.o, .slice b0 u.n0 e0, .int .i64 u.nx, .int .i64 u.md, .int .i64 u.pf, .slice b1 u.n1 e1] 39
      have bB : Below w1.heap.size w1 (w1.alloc (.cells #[.int .i64 u.pe, .int .i64 u.o, .slice b0 u.n0 e0, .int .i64 u.nx, .int .i64 u.md, .int .i64 u.pf, .slice b1 u.n1 e1] 39)) := below_box (Below.refl _ _)
      replace d0 := d0.trans (bB.mono d0.size)
      replace M0 := M0.below bB
      replace M1 := M1.below bB
      clear bB
      refine (G1.out _ _ _ (rowO_one N (hU.below d0))).mono ?_
      rintro e w2 ⟨rfl, b2⟩
      replace d0 := d0.trans (b2.mono d0.size)
      replace M0 := M0.below b2
      replace M1 := M1.below b2
      clear b2 v0 v1 v2 v3 v4 v5 v6
      clear N
      go_wp2_with fail
      go_ret2
      exact ⟨rfl, d0⟩
    | true =>
      rw [hh] at G1
      clear hg hh
      have hz : ((w.alloc (.cells #[.int .i64 t.pe, .int .i64 t.o, .slice a0 t.n0 c0, .int .i64 t.nx, .int .i64 t.md, .int .i64 t.pf, .slice a1 t.n1 c1] 39)).alloc (.cells #[.int .i64 u.pe, .int .i64 u.o, .slice b0 u.n0 e0, .int .i64 u.nx, .int .i64 u.md, .int .i64 u.pf, .slice b1 u.n1 e1] 39)).heap.size = w.heap.size + 1 + 1 := by simp
      go_enter Try.func20, Try.ntmps20
      go_wp2_with fail
      generalize (w.alloc (.cells #[.int .i64 t.pe, .int .i64 t.o, .slice a0 t.n0 c0, .int .i64 t.nx, .int .i64 t.md, .int .i64 t.pf, .slice a1 t.n1 c1] 39)).alloc (.cells #[.int .i64 u.pe, .int .i64 u.o, .slice b0 u.n0 e0, .int .i64 u.nx, .int .i64 u.md, .int .i64 u.pf, .slice b1 u.n1 e1] 39) = w0 at *
      have u0 := M0.2.1 0 _ rfl
      have u1 := M0.2.1 1 _ rfl
      have u2 := M0.2.1 2 _ rfl
      have u3 := M0.2.1 3 _ rfl
      have u4 := M0.2.1 4 _ rfl
      have u5 := M0.2.1 5 _ rfl
      have u6 := M0.2.1 6 _ rfl
      go_wp2_with fail
      have N := Mut.new w0 #[.int .i64 t.pe, .int .i64 t.o, .slice a0 t.n0 c0, .int .i64 t.nx, .int .i64 t.md, .int .i64 t.pf, .slice a1 t.n1 c1] 39
      rw [hz] at N
      clear hz
      have bB : Below w0.heap.size w0 (w0.alloc (.cells #[.int .i64 t.pe, .int .i64 t.o, .slice a0 t.n0 c0, .int .i64 t.nx, .int .i64 t.md, .int .i64 t.pf, .slice a1 t.n1 c1] 39)) := below_box (Below.refl _ _)
      replace d0 := d0.trans (bB.mono d0.size)
      replace M0 := M0.below bB
      replace M1 := M1.below bB
      clear bB
      refine (G0.out _ _ _ (rowO_one N (hT.below d0))).mono ?_
      rintro e w1 ⟨rfl, b1⟩
      replace d0 := d0.trans (b1.mono d0.size)
      replace M0 := M0.below b1
      replace M1 := M1.below b1
      clear b1 u0 u1 u2 u3 u4 u5 u6
      clear N
      have v0 := M1.2.1 0 _ rfl
      have v1 := M1.2.1 1 _ rfl
      have v2 := M1.2.1 2 _ rfl
      have v3 := M1.2.1 3 _ rfl
      have v4 := M1.2.1 4 _ rfl
      have v5 := M1.2.1 5 _ rfl
      have v6 := M1.2.1 6 _ rfl
      go_wp2_with fail
      have N := Mut.new w1 #[.int .i64 u.pe, .int .i64 u.o, .slice b0 u.n0 e0, .int .i64 u.nx, .int .i64 u.md, .int .i64 u.pf, .slice b1 u.n1 e1] 39
      have bB : Below w1.heap.size w1 (w1.alloc (.cells #[.int .i64 u.pe, .int .i64 u.o, .slice b0 u.n0 e0, .int .i64 u.nx, .int .i64 u.md, .int .i64 u.pf, .slice b1 u.n1 e1] 39)) := below_box (Below.refl _ _)
      replace d0 := d0.trans (bB.mono d0.size)
      replace M0 := M0.below bB
      replace M1 := M1.below bB
      clear bB
      refine (G1.out _ _ _ (rowO_one N (hU.below d0))).mono ?_
      rintro e w2 ⟨rfl, b2⟩
      replace d0 := d0.trans (b2.mono d0.size)
      replace M0 := M0.below b2
      replace M1 := M1.below b2
      clear b2 v0 v1 v2 v3 v4 v5 v6
      clear N
      have u0 := M0.2.1 0 _ rfl
      have v0 := M1.2.1 0 _ rfl
      have u1 := M0.2.1 1 _ rfl
      have v1 := M1.2.1 1 _ rfl
      have u2 := M0.2.1 2 _ rfl
      have v2 := M1.2.1 2 _ rfl
      have u3 := M0.2.1 3 _ rfl
      have v3 := M1.2.1 3 _ rfl
      have u4 := M0.2.1 4 _ rfl
      have v4 := M1.2.1 4 _ rfl
      have u5 := M0.2.1 5 _ rfl
      have v5 := M1.2.1 5 _ rfl
      have u6 := M0.2.1 6 _ rfl
      have v6 := M1.2.1 6 _ rfl
      go_wp2_with fail
      refine (C.out _).mono ?_
      rintro e w3 ⟨rfl, b3⟩
      go_wp2_with fail
      go_ret2
      exact ⟨rfl, d0.trans (b3.mono d0.size)⟩
end Go.Proofs.Ytgkjokobbeahfaa
