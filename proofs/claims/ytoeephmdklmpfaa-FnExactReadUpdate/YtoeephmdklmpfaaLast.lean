/- For every string FnExactReadUpdate answers true: the program's ReadUpdate answers as the specification's, in memory of its own. No conditions. -/
import Derived.Test.YtoeephmdklmpfaaW3k
import Derived.Test.YtoeephmdklmpfaaFlatUpdate
import Derived.Test.YtoeephmdklmpfaaFlatAttrs2
import Derived.Test.YtoeephmdklmpfaaMut4
import Derived.Test.YtoeephmdklmpfaaEndI
import Derived.Lib.Bytes
import Derived.Test.YtoeephmdklmpfaaS4y
import Derived.ProofKit
import Derived.OpenShut
import Derived.ShutString
import Derived.Lib.SmallJoins
/- What the laws do with updates as answers: marked, held; what stays. -/
namespace Go.Proofs.Ytoeephmdklmpfaa
open Go.RowKit

/-- Nothing that was there has turned but blocks of S. -/
def OnS (S : Nat → Prop) (w w' : World) : Prop := w'.os = w.os ∧ w'.tape = w.tape ∧ w'.output = w.output ∧ w.heap.size ≤ w'.heap.size ∧ ∀ k, k < w.heap.size → ¬ S k → w'.heap[k]? = w.heap[k]?
theorem OnS.mono {S T : Nat → Prop} {w w' : World} (h : OnS S w w') (hst : ∀ k, S k → T k) : OnS T w w' := ⟨h.1, h.2.1, h.2.2.1, h.2.2.2.1, fun k hk hn => h.2.2.2.2 k hk (fun q => hn (hst k q))⟩
theorem OnS.trans {S : Nat → Prop} {a b c : World} (h : OnS S a b) (k : OnS S b c) : OnS S a c :=
  ⟨k.1.trans h.1, k.2.1.trans h.2.1, k.2.2.1.trans h.2.2.1, Nat.le_trans h.2.2.2.1 k.2.2.2.1, fun i hi hn => (k.2.2.2.2 i (by have := h.2.2.2.1; omega) hn).trans (h.2.2.2.2 i hi hn)⟩
theorem OnS.of_below (S : Nat → Prop) {w w' : World} (h : Below w.heap.size w w') : OnS S w w' := ⟨h.os, h.tape, h.output, h.size, fun k hk _ => h.block k hk⟩
theorem OnS.of_only {c : Nat} {w w' : World} (h : Only c w w') : OnS (fun k => k = c) w w' := h
theorem OnS.base {S : Nat → Prop} {base : Nat} {w w' : World} (h : OnS S w w') (hS : ∀ k, S k → base ≤ k) (hb : base ≤ w.heap.size) : Below base w w' :=
  ⟨h.1, h.2.1, h.2.2.1, h.2.2.2.1, fun k hk => h.2.2.2.2 k (by omega) (fun q => by have := hS k q; omega)⟩
theorem OnS.cell {S : Nat → Prop} {w w' : World} (h : OnS S w w') {b o : Nat} (hb : b < w.heap.size) (hn : ¬ S b) : w'.cell? ⟨b, o, none⟩ = w.cell? ⟨b, o, none⟩ := World.cell?_of_block (w := w) (h.2.2.2.2 b hb hn)
theorem OnS.frozen {S : Nat → Prop} {w w' : World} (h : OnS S w w') {b o : Nat} (hb : b < w.heap.size) (hn : ¬ S b) : w'.frozen? ⟨b, o, none⟩ = w.frozen? ⟨b, o, none⟩ := World.frozen?_of_block (w := w) (h.2.2.2.2 b hb hn)
theorem Mut.onS {S : Nat → Prop} {w w' : World} {b : Nat} {vs : List Value} (h : Mut w b vs) (k : OnS S w w') (hn : ¬ S b) : Mut w' b vs :=
  ⟨Nat.lt_of_lt_of_le h.1 k.2.2.2.1, fun i v hv => (k.cell h.1 hn).trans (h.2.1 i v hv), fun i hi => (k.frozen h.1 hn).trans (h.2.2 i hi)⟩
theorem OutPrefix.onS {S : Nat → Prop} {c n k : Nat} {f0 f1 : Nat → Int} {w w' : World} (h : OutPrefix c n k f0 f1 w) (ho : OnS S w w') (hn : ¬ S c) : OutPrefix c n k f0 f1 w' := by
  refine ⟨Nat.lt_of_lt_of_le h.1 ho.2.2.2.1, fun i hi => ?_⟩
  obtain ⟨⟨x0, x1, h0, h1, hk⟩, g0, g1⟩ := h.2 i hi
  exact ⟨⟨x0, x1, (ho.cell h.1 hn).trans h0, (ho.cell h.1 hn).trans h1, hk⟩, (ho.frozen h.1 hn).trans g0, (ho.frozen h.1 hn).trans g1⟩
theorem OutInt.onS {S : Nat → Prop} {c n k : Nat} {f : Nat → Int} {w w' : World} (h : OutInt c n k f w) (ho : OnS S w w') (hn : ¬ S c) : OutInt c n k f w' := by
  refine ⟨Nat.lt_of_lt_of_le h.1 ho.2.2.2.1, fun i hi => ?_⟩
  obtain ⟨⟨x0, h0, hk⟩, g0⟩ := h.2 i hi
  exact ⟨⟨x0, (ho.cell h.1 hn).trans h0, hk⟩, (ho.frozen h.1 hn).trans g0⟩
/-- A list of prefixes at a, in block c, that may be written (nothing is said where it is empty). -/
def WrP (a : Option Addr) (c n : Nat) (f0 f1 : Nat → Int) (w : World) : Prop := 0 < n → a = some ⟨c, 0, none⟩ ∧ OutPrefix c n n f0 f1 w
def WrI (a : Option Addr) (c n : Nat) (f : Nat → Int) (w : World) : Prop := 0 < n → a = some ⟨c, 0, none⟩ ∧ OutInt c n n f w
theorem WrP.below {a : Option Addr} {c n : Nat} {f0 f1 : Nat → Int} {w w' : World} (h : WrP a c n f0 f1 w) (k : Below w.heap.size w w') : WrP a c n f0 f1 w' := fun hn => ⟨(h hn).1, (h hn).2.below k⟩
theorem WrI.below {a : Option Addr} {c n : Nat} {f : Nat → Int} {w w' : World} (h : WrI a c n f w) (k : Below w.heap.size w w') : WrI a c n f w' := fun hn => ⟨(h hn).1, (h hn).2.below k⟩
theorem WrP.onS {S : Nat → Prop} {a : Option Addr} {c n : Nat} {f0 f1 : Nat → Int} {w w' : World} (h : WrP a c n f0 f1 w) (k : OnS S w w') (hs : 0 < n → ¬ S c) : WrP a c n f0 f1 w' := fun hn => ⟨(h hn).1, (h hn).2.onS k (hs hn)⟩
theorem WrI.onS {S : Nat → Prop} {a : Option Addr} {c n : Nat} {f : Nat → Int} {w w' : World} (h : WrI a c n f w) (k : OnS S w w') (hs : 0 < n → ¬ S c) : WrI a c n f w' := fun hn => ⟨(h hn).1, (h hn).2.onS k (hs hn)⟩
theorem WrP.row {a : Option Addr} {c n : Nat} {f0 f1 : Nat → Int} {w : World} (h : WrP a c n f0 f1 w) : RowPrefix a n f0 f1 w := by
  intro i hi
  obtain ⟨rfl, ho⟩ := h (by omega)
  exact ho.row i hi
theorem WrI.row {a : Option Addr} {c n : Nat} {f : Nat → Int} {w : World} (h : WrI a c n f w) : RowInt a n f w := by
  intro i hi
  obtain ⟨rfl, ho⟩ := h (by omega)
  exact ho.row i hi
theorem WrP.lt {a : Option Addr} {c n : Nat} {f0 f1 : Nat → Int} {w : World} (h : WrP a c n f0 f1 w) (hn : 0 < n) : c < w.heap.size := (h hn).2.1
theorem WrI.lt {a : Option Addr} {c n : Nat} {f : Nat → Int} {w : World} (h : WrI a c n f w) (hn : 0 < n) : c < w.heap.size := (h hn).2.1
theorem w_markP (a : Option Addr) (c n cap : Nat) (f0 f1 : Nat → Int) (k0 : Int) (w : World) (hl : n ≤ 4294967296) (h0 : 0 ≤ k0) (h1 : k0 ≤ 1000000000000) (hW : WrP a c n f0 f1 w) :
    Calls Try.prog 70 #[.slice a n cap, .int .i64 k0] w fun e w' => e = .returned (.int .i64 (k0 + 2 * (n : Int))) ∧ OnS (fun k => 0 < n ∧ k = c) w w' ∧ WrP a c n (fun i => k0 + 2 * (i : Int) + 0) (fun i => k0 + 2 * (i : Int) + 1) w' := by
  by_cases hn : n = 0
  · subst hn
    refine (w_markPrefixS_nil a cap k0 w).mono ?_
    rintro e w' ⟨rfl, rfl⟩
    exact ⟨by simp, OnS.of_below _ (Below.refl _ _), fun h => absurd h (Nat.lt_irrefl 0)⟩
  · have hp : 0 < n := by omega
    obtain ⟨rfl, ho⟩ := hW hp
    refine (w_markPrefixS c n cap f0 f1 k0 w hl h0 h1 ho).mono ?_
    rintro e w' ⟨rfl, o, O⟩
    exact ⟨rfl, (OnS.of_only o).mono (fun k e => ⟨hp, e⟩), fun _ => ⟨rfl, O⟩⟩
theorem w_markI (a : Option Addr) (c n cap : Nat) (f : Nat → Int) (k0 : Int) (w : World) (hl : n ≤ 4294967296) (h0 : 0 ≤ k0) (h1 : k0 ≤ 1000000000000) (hW : WrI a c n f w) :
    Calls Try.prog 113 #[.slice a n cap, .int .i64 k0] w fun e w' => e = .returned (.int .i64 (k0 + (n : Int))) ∧ OnS (fun k => 0 < n ∧ k = c) w w' ∧ WrI a c n (fun i => k0 + (i : Int)) w' := by
  by_cases hn : n = 0
  · subst hn
    refine (w_markIntS_nil a cap k0 w).mono ?_
    rintro e w' ⟨rfl, rfl⟩
    exact ⟨by simp, OnS.of_below _ (Below.refl _ _), fun h => absurd h (Nat.lt_irrefl 0)⟩
  · have hp : 0 < n := by omega
    obtain ⟨rfl, ho⟩ := hW hp
    refine (w_markIntS c n cap f k0 w hl h0 h1 ho).mono ?_
    rintro e w' ⟨rfl, o, O⟩
    exact ⟨rfl, (OnS.of_only o).mono (fun k e => ⟨hp, e⟩), fun _ => ⟨rfl, O⟩⟩
set_option maxRecDepth 100000 in
set_option maxHeartbeats 1600000 in
theorem w_markA (o nx md pf : Int) (a0 : Option Addr) (x n0 c0 : Nat) (f : Nat → Int) (a1 : Option Addr) (y n1 c1 : Nat) (g : Nat → Int) (k0 : Int) (w : World) (l0 : n0 ≤ 1048576) (l1 : n1 ≤ 1048576) (h0 : 0 ≤ k0) (h1 : k0 ≤ 100000000000) (hn : 0 < n0 → 0 < n1 → x ≠ y) (O0 : WrI a0 x n0 f w) (O1 : WrI a1 y n1 g w) :
    Calls Try.prog 71 #[.agg #[.int .i64 o, .slice a0 n0 c0, .int .i64 nx, .int .i64 md, .int .i64 pf, .slice a1 n1 c1], .int .i64 k0] w fun e w' => e = .returned (.int .i64 (k0 + (n0 : Int) + (n1 : Int))) ∧ OnS (fun k => (0 < n0 ∧ k = x) ∨ (0 < n1 ∧ k = y)) w w' ∧ WrI a0 x n0 (fun i => k0 + (i : Int)) w' ∧ WrI a1 y n1 (fun i => k0 + (n0 : Int) + (i : Int)) w' := by
  have s0 := hide (fun w O => w_markI a0 x n0 c0 f k0 w (by omega) h0 (by omega) O)
  have s1 := hide (fun w O => w_markI a1 y n1 c1 g (k0 + (n0 : Int)) w (by omega) (by omega) (by omega) O)
  have M := Mut.new w #[.int .i64 o, .slice a0 n0 c0, .int .i64 nx, .int .i64 md, .int .i64 pf, .slice a1 n1 c1] 25
  have d : Below w.heap.size w (w.alloc (.cells #[.int .i64 o, .slice a0 n0 c0, .int .i64 nx, .int .i64 md, .int .i64 pf, .slice a1 n1 c1] 25)) := below_box (Below.refl _ _)
  have hx : 0 < n0 → x < w.heap.size := O0.lt
  have hy : 0 < n1 → y < w.heap.size := O1.lt
  have O0 := O0.below d
  have O1 := O1.below d
  clear l0 l1 h0 h1
  go_enter Try.func71, Try.ntmps71
  go_wp2_with fail
  generalize hWW : w.alloc (.cells #[.int .i64 o, .slice a0 n0 c0, .int .i64 nx, .int .i64 md, .int .i64 pf, .slice a1 n1 c1] 25) = W at *
  clear hWW
  refine (s0.out _ O0).mono ?_
  rintro e w1 ⟨rfl, q1, P0⟩
  have M := M.onS q1 (fun h => by have := hx h.1; omega)
  have P1 := O1.onS q1 (fun h1 h2 => hn h2.1 h1 h2.2.symm)
  have u5 := M.2.1 5 _ rfl
  go_wp2_with fail
  refine (s1.out _ P1).mono ?_
  rintro e w2 ⟨rfl, q2, P2⟩
  have P3 := P0.onS q2 (fun h1 h2 => hn h1 h2.1 h2.2)
  have qq : OnS (fun k => (0 < n0 ∧ k = x) ∨ (0 < n1 ∧ k = y)) w w2 := ((OnS.of_below _ d).trans (q1.mono (fun k h => .inl h))).trans (q2.mono (fun k h => .inr h))
  go_wp2_with fail
  go_ret
  exact ⟨rfl, qq, P3, P2⟩
set_option maxRecDepth 100000 in
set_option maxHeartbeats 1600000 in
theorem w_heldA (o nx md pf : Int) (a0 : Option Addr) (n0 c0 : Nat) (a1 : Option Addr) (n1 c1 : Nat) (k0 : Int) (w : World) (l0 : n0 ≤ 1048576) (l1 : n1 ≤ 1048576) (h0 : 0 ≤ k0) (h1 : k0 ≤ 100000000000) (R0 : RowInt a0 n0 (fun i => k0 + (i : Int)) w) (R1 : RowInt a1 n1 (fun i => k0 + (n0 : Int) + (i : Int)) w) :
    Calls Try.prog 73 #[.agg #[.int .i64 o, .slice a0 n0 c0, .int .i64 nx, .int .i64 md, .int .i64 pf, .slice a1 n1 c1], .int .i64 k0] w fun e w' => e = .returned (.int .i64 (k0 + (n0 : Int) + (n1 : Int))) ∧ Below w.heap.size w w' := by
  have s0 := hide (fun w R => w_heldIntS a0 n0 c0 k0 w (by omega) h0 (by omega) R)
  have s1 := hide (fun w R => w_heldIntS a1 n1 c1 (k0 + (n0 : Int)) w (by omega) (by omega) (by omega) R)
  have k1 : ¬ (k0 + (n0 : Int) < 0) := by omega
  have k2 : ¬ (k0 + (n0 : Int) + (n1 : Int) < 0) := by omega
  have d : Below w.heap.size w (w.alloc (.cells #[.int .i64 o, .slice a0 n0 c0, .int .i64 nx, .int .i64 md, .int .i64 pf, .slice a1 n1 c1] 25)) := below_box (Below.refl _ _)
  have R0 := R0.below d
  have R1 := R1.below d
  clear l0 l1 h0 h1
  go_enter Try.func73, Try.ntmps73
  go_wp2_with fail
  refine (s0.out _ R0).mono ?_
  rintro e w_ ⟨rfl, hw_⟩
  rw [hw_]
  clear hw_ w_
  go_wp2_with fail
  refine (s1.out _ R1).mono ?_
  rintro e w_ ⟨rfl, hw_⟩
  rw [hw_]
  clear hw_ w_
  go_wp2_with fail
  go_ret
  exact ⟨rfl, d⟩
end Go.Proofs.Ytoeephmdklmpfaa

/- What the program's ReadUpdate answers, in plain terms: the codes, and what was read. -/
namespace Go.Proofs.Ytoeephmdklmpfaa
open Go.RowKit

/-- What is left behind the first prefixes, and behind all. -/
def ruT (D : List Int) : Lc := sP (D, 0)
def ruU (D : List Int) : Lc := sP (sA5 (ruT D))
/-- The code of reading the bytes. -/
def ruC (D : List Int) : Int := if (ruT D).2 ≠ 0 then (ruT D).2 else if (ruT D).1 = [] then 0 else if (ruU D).2 ≠ 0 then (ruU D).2 else if (ruU D).1 = [] then 0 else 2
/-- What was read. -/
def ruG (D : List Int) : List Pf := sPv (D, 0)
def ruO (D : List Int) : Int := if (ruT D).1 = [] then 0 else vN 1 (ruT D).1 (ruT D).2
def ruP (D : List Int) : List Int := if (ruT D).1 = [] then [] else sMv 2 (sA0 (ruT D))
def ruN (D : List Int) : Int := if (ruT D).1 = [] then 0 else vN 4 (sA1 (ruT D)).1 (sA1 (ruT D)).2
def ruM (D : List Int) : Int := if (ruT D).1 = [] then 0 else vN 3 (sA2 (ruT D)).1 (sA2 (ruT D)).2
def ruF (D : List Int) : Int := if (ruT D).1 = [] then 0 else vN 3 (sA3 (ruT D)).1 (sA3 (ruT D)).2
def ruK (D : List Int) : List Int := if (ruT D).1 = [] then [] else sMv 3 (sA4 (ruT D))
def ruE (D : List Int) : List Pf := if (ruT D).1 = [] then [] else sPv (sA5 (ruT D))
theorem ruC_zero {D : List Int} (h : ruC D = 0) : (ruT D).2 = 0 ∧ ((ruT D).1 ≠ [] → (ruU D).2 = 0 ∧ (ruU D).1 = []) := by
  unfold ruC at h
  by_cases h1 : (ruT D).2 = 0
  · rw [if_neg (by simpa using h1)] at h
    refine ⟨h1, fun h2 => ?_⟩
    rw [if_neg h2] at h
    by_cases h3 : (ruU D).2 = 0
    · rw [if_neg (by simpa using h3)] at h
      by_cases h4 : (ruU D).1 = []
      · exact ⟨h3, h4⟩
      · rw [if_neg h4] at h
        exact absurd h (by decide)
    · rw [if_pos h3] at h
      exact absurd h h3
  · rw [if_pos h1] at h
    exact absurd h h1
theorem sMn_lt {s : Lc} (h : Bl s.1) : sMn s < 256 := by
  have := vN1_bd (c := s.2) h
  unfold sMn
  omega
theorem sPv_len (s : Lc) : (sPv s).length = sMn s := by simp [sPv, prL]
theorem sMv_len (m : Nat) (s : Lc) : (sMv m s).length = sMn s := by simp [sMv]
theorem ruG_len {D : List Int} (h : Bl D) : (ruG D).length < 256 := by rw [ruG, sPv_len]; exact sMn_lt h
theorem ruT_bl {D : List Int} (h : Bl D) : Bl (ruT D).1 := sP_bl h
theorem ruP_len {D : List Int} (h : Bl D) : (ruP D).length < 256 := by
  unfold ruP
  split
  · decide
  · rw [sMv_len]; exact sMn_lt (sA0_bl (ruT_bl h))
theorem ruK_len {D : List Int} (h : Bl D) : (ruK D).length < 256 := by
  unfold ruK
  split
  · decide
  · rw [sMv_len]; exact sMn_lt (sA4_bl (ruT_bl h))
theorem ruE_len {D : List Int} (h : Bl D) : (ruE D).length < 256 := by
  unfold ruE
  split
  · decide
  · rw [sPv_len]; exact sMn_lt (sA5_bl (ruT_bl h))
theorem Own4.shape {base : Nat} {x0 : Value} {Y0 : List Pf} {x1 : Value} {Y1 : List Int} {x5 : Value} {Y5 : List Int} {x7 : Value} {Y7 : List Pf} {w : World} (h : Own4 base x0 Y0 x1 Y1 x5 Y5 x7 Y7 w) :
    ∃ p0 n0 p1 n1 p5 n5 p7 n7, x0 = .slice p0 Y0.length n0 ∧ x1 = .slice p1 Y1.length n1 ∧ x5 = .slice p5 Y5.length n5 ∧ x7 = .slice p7 Y7.length n7 := by
  obtain ⟨M1, M2, M3, q0, q1, q2, q3, -⟩ := h
  obtain ⟨p0, n0, e0, -⟩ := ownP_row q0
  obtain ⟨p1, n1, e1, -⟩ := ownN_row q1
  obtain ⟨p5, n5, e5, -⟩ := ownN_row q2
  obtain ⟨p7, n7, e7, -⟩ := ownP_row q3
  exact ⟨p0, n0, p1, n1, p5, n5, p7, n7, e0, e1, e5, e7⟩
theorem i_ru_code (s : ByteArray) (w : World) (hs : s.size ≤ 1000) (hc : ruC (sbs s) ≠ 0) :
    Calls Try.prog 16 #[.string s] w fun e w' => e = .returned (ruNo (ruC (sbs s))) ∧ Below w.heap.size w w' := by
  refine i_ru_bad s _ w hs hc (hide fun b g w hg R => ?_)
  refine (i_updateF b g (sbs s, 0) hg (sbs_byte s) w R).mono ?_
  rintro e w' ⟨x0, Y0, a0, x1, Y1, a2, a3, a4, x5, Y5, x7, Y7, L, cf, rfl, O, o, F, k1, k2, k3⟩
  obtain ⟨p0, n0, p1, n1, p5, n5, p7, n7, rfl, rfl, rfl, rfl⟩ := O.shape
  have hcf : cf = ruC (sbs s) := by
    unfold ruC at hc ⊢
    by_cases h1 : (ruT (sbs s)).2 = 0
    · rw [if_neg (by simpa using h1)] at hc ⊢
      by_cases h2 : (ruT (sbs s)).1 = []
      · rw [if_pos h2] at hc
        exact absurd rfl hc
      · rw [if_neg h2] at hc ⊢
        obtain ⟨q1, q2, q3⟩ := k3.out h1 h2
        by_cases h3 : (ruU (sbs s)).2 = 0
        · rw [if_neg (by simpa using h3)] at hc ⊢
          by_cases h4 : (ruU (sbs s)).1 = []
          · rw [if_pos h4] at hc
            exact absurd rfl hc
          · rw [if_neg h4]
            exact q2 h3 h4
        · rw [if_pos h3]
          exact q1 h3
    · rw [if_pos h1]
      exact k1.out h1
  subst hcf
  exact ⟨p0, _, n0, a0, p1, _, n1, a2, a3, a4, p5, _, n5, p7, _, n7, L, rfl, o, F⟩
/-- takeUpdate where nothing is wrong. -/
theorem i_ru_read (s : ByteArray) (hc : ruC (sbs s) = 0) (b g : Nat) (w : World) (hg : g < b) (R : Fr w b g (sbs s) 0) :
    Calls Try.prog 67 #[.pointer (some ⟨b, 0, none⟩)] w fun e w' => ∃ p0 n0 p1 n1 p5 n5 p7 n7 L, e = .returned (.agg #[.slice p0 (ruG (sbs s)).length n0, .int .i64 (ruO (sbs s)), .slice p1 (ruP (sbs s)).length n1, .int .i64 (ruN (sbs s)), .int .i64 (ruM (sbs s)), .int .i64 (ruF (sbs s)), .slice p5 (ruK (sbs s)).length n5, .slice p7 (ruE (sbs s)).length n7]) ∧ Own4 w.heap.size (.slice p0 (ruG (sbs s)).length n0) (ruG (sbs s)) (.slice p1 (ruP (sbs s)).length n1) (ruP (sbs s)) (.slice p5 (ruK (sbs s)).length n5) (ruK (sbs s)) (.slice p7 (ruE (sbs s)).length n7) (ruE (sbs s)) w' ∧ Only b w w' ∧ Fr w' b g L 0 := by
  refine (i_updateF b g (sbs s, 0) hg (sbs_byte s) w R).mono ?_
  rintro e w' ⟨x0, Y0, a0, x1, Y1, a2, a3, a4, x5, Y5, x7, Y7, L, cf, rfl, O, o, F, k1, k2, k3⟩
  obtain ⟨p0, n0, p1, n1, p5, n5, p7, n7, rfl, rfl, rfl, rfl⟩ := O.shape
  obtain ⟨h1, h2⟩ := ruC_zero hc
  have hall : cf = 0 ∧ Y0 = ruG (sbs s) ∧ a0 = ruO (sbs s) ∧ Y1 = ruP (sbs s) ∧ a2 = ruN (sbs s) ∧ a3 = ruM (sbs s) ∧ a4 = ruF (sbs s) ∧ Y5 = ruK (sbs s) ∧ Y7 = ruE (sbs s) := by
    unfold ruO ruP ruN ruM ruF ruK ruE
    by_cases h : (ruT (sbs s)).1 = []
    · simp only [if_pos h]
      exact k2.out h1 h
    · simp only [if_neg h]
      exact (k3.out h1 h).2.2 (h2 h).1 (h2 h).2
  obtain ⟨rfl, rfl, rfl, rfl, rfl, rfl, rfl, rfl, rfl⟩ := hall
  exact ⟨p0, n0, p1, n1, p5, n5, p7, n7, L, rfl, O, o, F⟩
end Go.Proofs.Ytoeephmdklmpfaa

/- What the program's ReadUpdate answers: whole. -/
namespace Go.Proofs.Ytoeephmdklmpfaa
open Go.RowKit

def ruGood (D : List Int) : Bool := updB (ruG D).length (fun i => (pAt (ruG D) i).1) (fun i => (pAt (ruG D) i).2) (ruO D) (ruN D) (ruM D) (ruF D) (ruP D).length (fun i => (ruP D).getD i 0) (ruK D).length (fun i => (ruK D).getD i 0) (ruE D).length (fun i => (pAt (ruE D) i).1) (fun i => (pAt (ruE D) i).2)
def ruB (D : List Int) : List Int := upb (ruG D).length (fun i => (pAt (ruG D) i).1) (fun i => (pAt (ruG D) i).2) (ruO D) (ruN D) (ruM D) (ruF D) (ruP D).length (fun i => (ruP D).getD i 0) (ruK D).length (fun i => (ruK D).getD i 0) (ruE D).length (fun i => (pAt (ruE D) i).1) (fun i => (pAt (ruE D) i).2)
theorem pAt_prL {D : List Int} {n i : Nat} (h : i < n) : pAt (prL D n) i = (rdA (prR D i), rdL (prR D i)) := by
  simp [pAt, prL, List.getD_eq_getElem?_getD, h]
theorem getD_ns {m n i : Nat} {D : List Int} (h : i < n) : ((List.range n).map (nsV m D)).getD i 0 = nsV m D i := by
  simp [List.getD_eq_getElem?_getD, h]
/-- The first prefixes' bytes. -/
theorem ruG_read {D : List Int} (hB : Bl D) (h : (ruT D).2 = 0) : nlb (ruG D).length (fun i => (pAt (ruG D) i).1) (fun i => (pAt (ruG D) i).2) ++ (ruT D).1 = D := by
  rw [ruG, sPv_len]
  exact sP_read (s := (D, 0)) hB h (fun i hi => by rw [sPv, pAt_prL hi]) (fun i hi => by rw [sPv, pAt_prL hi])
theorem ruB_read {D : List Int} (hB : Bl D) (hc : ruC D = 0) (h : (ruT D).1 = [] ∨ ruE D ≠ []) : ruB D = D := by
  obtain ⟨h1, h2⟩ := ruC_zero hc
  have e := ruG_read hB h1
  unfold ruB upb
  by_cases hT : (ruT D).1 = []
  · rw [if_pos (by rw [ruE, if_pos hT]; rfl)]
    rw [hT, List.append_nil] at e
    exact e
  · have hE : ruE D ≠ [] := h.resolve_left hT
    rw [if_neg (by intro q; exact hE (List.eq_nil_of_length_eq_zero q))]
    obtain ⟨h3, h4⟩ := h2 hT
    have hb := ruT_bl hB
    have eP : ruP D = sMv 2 (sA0 (ruT D)) := if_neg hT
    have eK : ruK D = sMv 3 (sA4 (ruT D)) := if_neg hT
    have eE : ruE D = sPv (sA5 (ruT D)) := if_neg hT
    have a := sA_read (s := ruT D) (f := fun i => (ruP D).getD i 0) (g := fun i => (ruK D).getD i 0) hb (sU_zero h3).1 (fun i hi => by rw [eP, sMv, getD_ns hi]) (fun i hi => by rw [eK, sMv, getD_ns hi])
    have p := sP_read (s := sA5 (ruT D)) (f0 := fun i => (pAt (ruE D) i).1) (f1 := fun i => (pAt (ruE D) i).2) (sA5_bl hb) h3 (fun i hi => by rw [eE, sPv, pAt_prL hi]) (fun i hi => by rw [eE, sPv, pAt_prL hi])
    rw [show (sP (sA5 (ruT D))).1 = [] from h4, List.append_nil] at p
    have lP : (ruP D).length = sMn (sA0 (ruT D)) := by rw [eP, sMv_len]
    have lK : (ruK D).length = sMn (sA4 (ruT D)) := by rw [eK, sMv_len]
    have lE : (ruE D).length = sMn (sA5 (ruT D)) := by rw [eE, sPv_len]
    rw [lP, lK, lE, p]
    have o1 : ruO D = vN 1 (ruT D).1 (ruT D).2 := if_neg hT
    have o2 : ruN D = vN 4 (sA1 (ruT D)).1 (sA1 (ruT D)).2 := if_neg hT
    have o3 : ruM D = vN 3 (sA2 (ruT D)).1 (sA2 (ruT D)).2 := if_neg hT
    have o4 : ruF D = vN 3 (sA3 (ruT D)).1 (sA3 (ruT D)).2 := if_neg hT
    rw [o1, o2, o3, o4, List.append_assoc, a]
    exact e
/-- Where attrs stand and none comes, its bytes are fewer. -/
theorem ruB_less {D : List Int} (hB : Bl D) (hc : ruC D = 0) (hT : (ruT D).1 ≠ []) (hE : ruE D = []) : (ruB D).length < D.length := by
  obtain ⟨h1, _⟩ := ruC_zero hc
  have e := congrArg List.length (ruG_read hB h1)
  unfold ruB upb
  rw [if_pos (by rw [hE]; rfl)]
  rw [List.length_append] at e
  have : 0 < (ruT D).1.length := List.length_pos_iff.2 hT
  omega
theorem str_sbs (s : ByteArray) : strOfNums (sbs s) = s := by
  refine ByteArray.ext (Array.toList_inj.1 ?_)
  rw [strOfNums_data, sbs, List.map_map]
  refine (List.map_congr_left (g := id) fun x _ => ?_).trans (List.map_id _)
  simp
/-- Four lists' rows. -/
theorem Own4.rows {base : Nat} {p0 : Option Addr} {n0 : Nat} {Y0 : List Pf} {p1 : Option Addr} {n1 : Nat} {Y1 : List Int} {p5 : Option Addr} {n5 : Nat} {Y5 : List Int} {p7 : Option Addr} {n7 : Nat} {Y7 : List Pf} {w : World} (h : Own4 base (.slice p0 Y0.length n0) Y0 (.slice p1 Y1.length n1) Y1 (.slice p5 Y5.length n5) Y5 (.slice p7 Y7.length n7) Y7 w) :
    RowPrefix p0 Y0.length (fun i => (pAt Y0 i).1) (fun i => (pAt Y0 i).2) w ∧ RowInt p1 Y1.length (fun i => Y1.getD i 0) w ∧ RowInt p5 Y5.length (fun i => Y5.getD i 0) w ∧ RowPrefix p7 Y7.length (fun i => (pAt Y7 i).1) (fun i => (pAt Y7 i).2) w := by
  obtain ⟨M1, M2, M3, q0, q1, q2, q3, -⟩ := h
  obtain ⟨_, _, e0, r0, -⟩ := ownP_row q0
  obtain ⟨_, _, e1, r1, -⟩ := ownN_row q1
  obtain ⟨_, _, e5, r5, -⟩ := ownN_row q2
  obtain ⟨_, _, e7, r7, -⟩ := ownP_row q3
  injection e0 with e0 _ _
  injection e1 with e1 _ _
  injection e5 with e5 _ _
  injection e7 with e7 _ _
  subst e0 e1 e5 e7
  exact ⟨r0.row, r1, r5, r7.row⟩
theorem i_ru_bytes (s : ByteArray) (p0 : Option Addr) (n0 : Nat) (p1 : Option Addr) (n1 : Nat) (p5 : Option Addr) (n5 : Nat) (p7 : Option Addr) (n7 : Nat) (base : Nat) (w : World) (h : Own4 base (.slice p0 (ruG (sbs s)).length n0) (ruG (sbs s)) (.slice p1 (ruP (sbs s)).length n1) (ruP (sbs s)) (.slice p5 (ruK (sbs s)).length n5) (ruK (sbs s)) (.slice p7 (ruE (sbs s)).length n7) (ruE (sbs s)) w) :
    Calls Try.prog 58 #[.agg #[.slice p0 (ruG (sbs s)).length n0, .int .i64 (ruO (sbs s)), .slice p1 (ruP (sbs s)).length n1, .int .i64 (ruN (sbs s)), .int .i64 (ruM (sbs s)), .int .i64 (ruF (sbs s)), .slice p5 (ruK (sbs s)).length n5, .slice p7 (ruE (sbs s)).length n7]] w fun e w' => e = .returned (.tuple #[.string (if ruGood (sbs s) then strOfNums (ruB (sbs s)) else ByteArray.empty), .bool (ruGood (sbs s))]) ∧ Below w.heap.size w w' := by
  obtain ⟨r0, r1, r5, r7⟩ := h.rows
  have b := sbs_byte s
  have l0 := ruG_len b
  have l1 := ruP_len b
  have l5 := ruK_len b
  have l7 := ruE_len b
  exact i_updateBytes p0 _ n0 _ _ _ _ _ _ p1 _ n1 _ p5 _ n5 _ p7 _ n7 _ _ w (by omega) (by omega) (by omega) (by omega) r0 r1 r5 r7
/-- The update is whole and good. -/
def ruOk (D : List Int) : Bool := decide (ruC D = 0) && ruGood D && decide ((ruT D).1 = [] ∨ ruE D ≠ [])
theorem i_ru_not (s : ByteArray) (w : World) (hs : s.size ≤ 1000) (hc : ruC (sbs s) = 0) (hn : ruOk (sbs s) = false) :
    Calls Try.prog 16 #[.string s] w fun e w' => e = .returned (ruNo 3) ∧ Below w.heap.size w w' := by
  refine i_ru_three s _ _ _ _ _ _ _ _ (if ruGood (sbs s) then strOfNums (ruB (sbs s)) else ByteArray.empty) (ruGood (sbs s)) w hs ?_ (hide fun b g w hg R => i_ru_read s hc b g w hg R) (hide fun p0 n0 p1 n1 p5 n5 p7 n7 base w h => i_ru_bytes s p0 n0 p1 n1 p5 n5 p7 n7 base w h)
  cases hg : ruGood (sbs s) with
  | false => exact .inl rfl
  | true =>
    right
    rw [if_pos rfl]
    have hT : (ruT (sbs s)).1 ≠ [] ∧ ruE (sbs s) = [] := by
      unfold ruOk at hn
      rw [hg] at hn
      simp [hc] at hn
      exact hn
    have hl := ruB_less (sbs_byte s) hc hT.1 hT.2
    refine beq_eq_false_iff_ne.2 fun q => ?_
    have := congrArg List.length q
    rw [← str_sbs s, Lib.strOfNums_toList, Lib.strOfNums_toList, Lib.bytesOf_length, Lib.bytesOf_length, str_sbs s] at this
    omega
theorem i_ru_good (s : ByteArray) (w : World) (hs : s.size ≤ 1000) (hn : ruOk (sbs s) = true) :
    Calls Try.prog 16 #[.string s] w fun e w' => ∃ p0 n0 p1 n1 p5 n5 p7 n7, e = .returned (.tuple #[.agg #[.slice p0 (ruG (sbs s)).length n0, .int .i64 (ruO (sbs s)), .slice p1 (ruP (sbs s)).length n1, .int .i64 (ruN (sbs s)), .int .i64 (ruM (sbs s)), .int .i64 (ruF (sbs s)), .slice p5 (ruK (sbs s)).length n5, .slice p7 (ruE (sbs s)).length n7], .int .i64 0, .bool true]) ∧ Own4 w.heap.size (.slice p0 (ruG (sbs s)).length n0) (ruG (sbs s)) (.slice p1 (ruP (sbs s)).length n1) (ruP (sbs s)) (.slice p5 (ruK (sbs s)).length n5) (ruK (sbs s)) (.slice p7 (ruE (sbs s)).length n7) (ruE (sbs s)) w' ∧ Below w.heap.size w w' := by
  unfold ruOk at hn
  simp only [Bool.and_eq_true, decide_eq_true_eq] at hn
  obtain ⟨⟨hc, hg⟩, hT⟩ := hn
  refine i_ru_yes s _ _ _ _ _ _ _ _ (if ruGood (sbs s) then strOfNums (ruB (sbs s)) else ByteArray.empty) (ruGood (sbs s)) w hs hg ?_ (hide fun b g w hg R => i_ru_read s hc b g w hg R) (hide fun p0 n0 p1 n1 p5 n5 p7 n7 base w h => i_ru_bytes s p0 n0 p1 n1 p5 n5 p7 n7 base w h)
  rw [if_pos hg, ruB_read (sbs_byte s) hc hT, str_sbs]
  exact beq_self_eq_true _
end Go.Proofs.Ytoeephmdklmpfaa

/- The specification's ReadUpdate, in the terms of what was read. -/
namespace Go.Proofs.Ytoeephmdklmpfaa
open Go.RowKit

theorem s_numF (s : ByteArray) (m : Nat) (t : Lc) (hs : s.size ≤ 1000) (hm : m ≤ 4) (b : Nat) (w : World) (R : Rd w b s t.1 t.2) :
    Calls Try.prog 64 #[.pointer (some ⟨b, 0, none⟩), .int .i64 m] w fun e w' => e = .returned (.int .i64 (vN m t.1 t.2)) ∧ Rd w' b s (sN m t).1 (sN m t).2 ∧ Only b w w' := s_num b s t.1 t.2 m w hs hm R
theorem s_numsF (s : ByteArray) (m : Nat) (t : Lc) (hs : s.size ≤ 1000) (hm : m ≤ 4) (hB : Bl t.1) (b : Nat) (w : World) (R : Rd w b s t.1 t.2) :
    Calls Try.prog 65 #[.pointer (some ⟨b, 0, none⟩), .int .i64 m] w fun e w' => ∃ v Y, e = .returned v ∧ OwnN 3 .i64 w.heap.size v Y w' ∧ Only b w w' ∧ Rd w' b s (sM m t).1 (sM m t).2 ∧ ((sM m t).2 = 0 → Y = sMv m t) := s_nums b s t.1 t.2 m w hs hm (vN1_bd hB).1 (vN1_bd hB).2 R
theorem s_prefsF (s : ByteArray) (t : Lc) (hs : s.size ≤ 1000) (hB : Bl t.1) (b : Nat) (w : World) (R : Rd w b s t.1 t.2) :
    Calls Try.prog 63 #[.pointer (some ⟨b, 0, none⟩)] w fun e w' => ∃ v Y, e = .returned v ∧ OwnP w.heap.size v Y w' ∧ Only b w w' ∧ Rd w' b s (sP t).1 (sP t).2 ∧ ((sP t).2 = 0 → Y = sPv t) := s_prefs b s t.1 t.2 w hs (vN1_bd hB).1 (vN1_bd hB).2 R
theorem s_ru_code (s : ByteArray) (w : World) (hs : s.size ≤ 1000) (hc : ruC (sbs s) ≠ 0) :
    Calls Try.prog 15 #[.string s] w fun e w' => e = .returned (ruNo (ruC (sbs s))) ∧ Below w.heap.size w w' := by
  have hB : Bl (sbs s) := sbs_byte s
  have hT : Bl (ruT (sbs s)).1 := ruT_bl hB
  by_cases h1 : (ruT (sbs s)).2 = 0
  · by_cases h2 : (ruT (sbs s)).1 = []
    · exact absurd (by unfold ruC; rw [if_neg (by simpa using h1), if_pos h2]) hc
    · by_cases h3 : (ruU (sbs s)).2 = 0
      · by_cases h4 : (ruU (sbs s)).1 = []
        · exact absurd (by unfold ruC; rw [if_neg (by simpa using h1), if_neg h2, if_neg (by simpa using h3), if_pos h4]) hc
        · rw [show ruC (sbs s) = 2 by unfold ruC; rw [if_neg (by simpa using h1), if_neg h2, if_neg (by simpa using h3), if_neg h4]]
          exact s_ru_at_two s _ _ _ _ _ _ _ _ _ _ _ _ _ _ _ _ _ _ _ _ _ _ _ _ w hs h1 h2 h3 h4
            (hide fun b w R => s_prefsF s (sbs s, 0) hs hB b w R)
            (hide fun b w R => s_numF s 1 (ruT (sbs s)) hs (by decide) b w R)
            (hide fun b w R => s_numsF s 2 (sA0 (ruT (sbs s))) hs (by decide) (sA0_bl hT) b w R)
            (hide fun b w R => s_numF s 4 (sA1 (ruT (sbs s))) hs (by decide) b w R)
            (hide fun b w R => s_numF s 3 (sA2 (ruT (sbs s))) hs (by decide) b w R)
            (hide fun b w R => s_numF s 3 (sA3 (ruT (sbs s))) hs (by decide) b w R)
            (hide fun b w R => s_numsF s 3 (sA4 (ruT (sbs s))) hs (by decide) (sA4_bl hT) b w R)
            (hide fun b w R => s_prefsF s (sA5 (ruT (sbs s))) hs (sA5_bl hT) b w R)
      · rw [show ruC (sbs s) = (ruU (sbs s)).2 by unfold ruC; rw [if_neg (by simpa using h1), if_neg h2, if_pos h3]]
        exact s_ru_at_code s _ _ _ _ _ _ _ _ _ _ _ _ _ _ _ _ _ _ _ _ _ _ _ _ w hs h1 h2 h3
            (hide fun b w R => s_prefsF s (sbs s, 0) hs hB b w R)
            (hide fun b w R => s_numF s 1 (ruT (sbs s)) hs (by decide) b w R)
            (hide fun b w R => s_numsF s 2 (sA0 (ruT (sbs s))) hs (by decide) (sA0_bl hT) b w R)
            (hide fun b w R => s_numF s 4 (sA1 (ruT (sbs s))) hs (by decide) b w R)
            (hide fun b w R => s_numF s 3 (sA2 (ruT (sbs s))) hs (by decide) b w R)
            (hide fun b w R => s_numF s 3 (sA3 (ruT (sbs s))) hs (by decide) b w R)
            (hide fun b w R => s_numsF s 3 (sA4 (ruT (sbs s))) hs (by decide) (sA4_bl hT) b w R)
            (hide fun b w R => s_prefsF s (sA5 (ruT (sbs s))) hs (sA5_bl hT) b w R)
  · rw [show ruC (sbs s) = (ruT (sbs s)).2 by unfold ruC; rw [if_pos h1]]
    exact s_ru_bad0 s _ _ _ w hs h1 (hide fun b w R => s_prefsF s (sbs s, 0) hs hB b w R)
theorem s_goodU (s : ByteArray) (p0 : Option Addr) (n0 : Nat) (p1 : Option Addr) (n1 : Nat) (p5 : Option Addr) (n5 : Nat) (p7 : Option Addr) (n7 : Nat) (w : World) (r0 : RowP p0 (ruG (sbs s)) w) (r1 : RowN .i64 p1 (ruP (sbs s)) w) (r5 : RowN .i64 p5 (ruK (sbs s)) w) (r7 : RowP p7 (ruE (sbs s)) w) :
    Calls Try.prog 66 #[.agg #[.slice p0 (ruG (sbs s)).length n0, .int .i64 (ruO (sbs s)), .slice p1 (ruP (sbs s)).length n1, .int .i64 (ruN (sbs s)), .int .i64 (ruM (sbs s)), .int .i64 (ruF (sbs s)), .slice p5 (ruK (sbs s)).length n5, .slice p7 (ruE (sbs s)).length n7]] w fun e w' => e = .returned (.bool (ruGood (sbs s))) ∧ Below w.heap.size w w' := by
  have hB : Bl (sbs s) := sbs_byte s
  have k0 := ruG_len hB
  have k1 := ruP_len hB
  have k5 := ruK_len hB
  have k7 := ruE_len hB
  exact s_goodUpdate p0 _ n0 _ _ _ _ _ _ p1 _ n1 (fun i => (ruP (sbs s)).getD i 0) p5 _ n5 (fun i => (ruK (sbs s)).getD i 0) p7 _ n7 _ _ w (by omega) (by omega) (by omega) (by omega) r0.row r1 r5 r7.row
/-- Nothing behind the first prefixes: the rest is zero. -/
theorem ru_zero {D : List Int} (h : (ruT D).1 = []) : ruO D = 0 ∧ ruP D = [] ∧ ruN D = 0 ∧ ruM D = 0 ∧ ruF D = 0 ∧ ruK D = [] ∧ ruE D = [] := ⟨if_pos h, if_pos h, if_pos h, if_pos h, if_pos h, if_pos h, if_pos h⟩
theorem s_ru_goneF (s : ByteArray) (w : World) (hs : s.size ≤ 1000) (h1 : (ruT (sbs s)).2 = 0) (h2 : (ruT (sbs s)).1 = []) :
    Calls Try.prog 15 #[.string s] w fun e w' => (ruGood (sbs s) = false → e = .returned (ruNo 3) ∧ Below w.heap.size w w') ∧ (ruGood (sbs s) = true → ∃ p0 n0, e = .returned (.tuple #[.agg #[.slice p0 (ruG (sbs s)).length n0, .int .i64 0, .slice none 0 0, .int .i64 0, .int .i64 0, .int .i64 0, .slice none 0 0, .slice none 0 0], .int .i64 0, .bool true]) ∧ OwnP w.heap.size (.slice p0 (ruG (sbs s)).length n0) (ruG (sbs s)) w' ∧ Below w.heap.size w w') := by
  obtain ⟨eO, eP, eN, eM, eF, eK, eE⟩ := ru_zero h2
  refine s_ru_gone s _ _ _ (ruGood (sbs s)) w hs h1 h2 (hide fun b w R => s_prefsF s (sbs s, 0) hs (sbs_byte s) b w R) (hide fun p0 n0 p1 n1 p5 n5 p7 n7 w r0 r1 r5 r7 => ?_)
  have k := s_goodU s p0 n0 p1 n1 p5 n5 p7 n7 w r0 (by rw [eP]; exact r1) (by rw [eK]; exact r5) (by rw [eE]; exact r7)
  rw [eO, eP, eN, eM, eF, eK, eE] at k
  exact k
theorem s_ru_goodF (s : ByteArray) (w : World) (hs : s.size ≤ 1000) (hc : ruC (sbs s) = 0) (h2 : (ruT (sbs s)).1 ≠ []) (hE : ruE (sbs s) ≠ []) :
    Calls Try.prog 15 #[.string s] w fun e w' => (ruGood (sbs s) = false → e = .returned (ruNo 3) ∧ Below w.heap.size w w') ∧ (ruGood (sbs s) = true → ∃ p0 n0 p1 n1 p5 n5 p7 n7, e = .returned (.tuple #[.agg #[.slice p0 (ruG (sbs s)).length n0, .int .i64 (ruO (sbs s)), .slice p1 (ruP (sbs s)).length n1, .int .i64 (ruN (sbs s)), .int .i64 (ruM (sbs s)), .int .i64 (ruF (sbs s)), .slice p5 (ruK (sbs s)).length n5, .slice p7 (ruE (sbs s)).length n7], .int .i64 0, .bool true]) ∧ Own4 w.heap.size (.slice p0 (ruG (sbs s)).length n0) (ruG (sbs s)) (.slice p1 (ruP (sbs s)).length n1) (ruP (sbs s)) (.slice p5 (ruK (sbs s)).length n5) (ruK (sbs s)) (.slice p7 (ruE (sbs s)).length n7) (ruE (sbs s)) w' ∧ Below w.heap.size w w') := by
    have hB : Bl (sbs s) := sbs_byte s
    have hT : Bl (ruT (sbs s)).1 := ruT_bl hB
    obtain ⟨h1, hz⟩ := ruC_zero hc
    obtain ⟨h3, h4⟩ := hz h2
    obtain ⟨z5, z1⟩ := sU_zero h3
    have eO : ruO (sbs s) = vN 1 (ruT (sbs s)).1 (ruT (sbs s)).2 := if_neg h2
    have eP : ruP (sbs s) = sMv 2 (sA0 (ruT (sbs s))) := if_neg h2
    have eN : ruN (sbs s) = vN 4 (sA1 (ruT (sbs s))).1 (sA1 (ruT (sbs s))).2 := if_neg h2
    have eM : ruM (sbs s) = vN 3 (sA2 (ruT (sbs s))).1 (sA2 (ruT (sbs s))).2 := if_neg h2
    have eF : ruF (sbs s) = vN 3 (sA3 (ruT (sbs s))).1 (sA3 (ruT (sbs s))).2 := if_neg h2
    have eK : ruK (sbs s) = sMv 3 (sA4 (ruT (sbs s))) := if_neg h2
    have eE : ruE (sbs s) = sPv (sA5 (ruT (sbs s))) := if_neg h2
    exact s_ru_at_good s _ _ _ (ruGood (sbs s)) (ruP (sbs s)) (ruK (sbs s)) (ruE (sbs s)) (ruO (sbs s)) (ruN (sbs s)) (ruM (sbs s)) (ruF (sbs s)) _ _ _ _ _ _ _ _ _ _ _ _ _ _ w hs h1 h2 h3 h4 hE z1 z5
            (hide fun b w R => s_prefsF s (sbs s, 0) hs hB b w R)
            (hide fun b w R => by rw [eO]; exact s_numF s 1 (ruT (sbs s)) hs (by decide) b w R)
            (hide fun b w R => by rw [eP]; exact s_numsF s 2 (sA0 (ruT (sbs s))) hs (by decide) (sA0_bl hT) b w R)
            (hide fun b w R => by rw [eN]; exact s_numF s 4 (sA1 (ruT (sbs s))) hs (by decide) b w R)
            (hide fun b w R => by rw [eM]; exact s_numF s 3 (sA2 (ruT (sbs s))) hs (by decide) b w R)
            (hide fun b w R => by rw [eF]; exact s_numF s 3 (sA3 (ruT (sbs s))) hs (by decide) b w R)
            (hide fun b w R => by rw [eK]; exact s_numsF s 3 (sA4 (ruT (sbs s))) hs (by decide) (sA4_bl hT) b w R)
            (hide fun b w R => by rw [eE]; exact s_prefsF s (sA5 (ruT (sbs s))) hs (sA5_bl hT) b w R)
            (hide fun p0 n0 p1 n1 p5 n5 p7 n7 w r0 r1 r5 r7 => s_goodU s p0 n0 p1 n1 p5 n5 p7 n7 w r0 r1 r5 r7)
theorem s_ru_noneF (s : ByteArray) (w : World) (hs : s.size ≤ 1000) (hc : ruC (sbs s) = 0) (h2 : (ruT (sbs s)).1 ≠ []) (hE : ruE (sbs s) = []) :
    Calls Try.prog 15 #[.string s] w fun e w' => e = .returned (ruNo 3) ∧ Below w.heap.size w w' := by
    have hB : Bl (sbs s) := sbs_byte s
    have hT : Bl (ruT (sbs s)).1 := ruT_bl hB
    obtain ⟨h1, hz⟩ := ruC_zero hc
    obtain ⟨h3, h4⟩ := hz h2
    have eO : ruO (sbs s) = vN 1 (ruT (sbs s)).1 (ruT (sbs s)).2 := if_neg h2
    have eP : ruP (sbs s) = sMv 2 (sA0 (ruT (sbs s))) := if_neg h2
    have eN : ruN (sbs s) = vN 4 (sA1 (ruT (sbs s))).1 (sA1 (ruT (sbs s))).2 := if_neg h2
    have eM : ruM (sbs s) = vN 3 (sA2 (ruT (sbs s))).1 (sA2 (ruT (sbs s))).2 := if_neg h2
    have eF : ruF (sbs s) = vN 3 (sA3 (ruT (sbs s))).1 (sA3 (ruT (sbs s))).2 := if_neg h2
    have eK : ruK (sbs s) = sMv 3 (sA4 (ruT (sbs s))) := if_neg h2
    have eE : ruE (sbs s) = sPv (sA5 (ruT (sbs s))) := if_neg h2
    exact s_ru_at_none s _ _ _ (ruP (sbs s)) (ruK (sbs s)) (ruE (sbs s)) (ruO (sbs s)) (ruN (sbs s)) (ruM (sbs s)) (ruF (sbs s)) _ _ _ _ _ _ _ _ _ _ _ _ _ _ w hs h1 h2 h3 h4 hE
            (hide fun b w R => s_prefsF s (sbs s, 0) hs hB b w R)
            (hide fun b w R => by rw [eO]; exact s_numF s 1 (ruT (sbs s)) hs (by decide) b w R)
            (hide fun b w R => by rw [eP]; exact s_numsF s 2 (sA0 (ruT (sbs s))) hs (by decide) (sA0_bl hT) b w R)
            (hide fun b w R => by rw [eN]; exact s_numF s 4 (sA1 (ruT (sbs s))) hs (by decide) b w R)
            (hide fun b w R => by rw [eM]; exact s_numF s 3 (sA2 (ruT (sbs s))) hs (by decide) b w R)
            (hide fun b w R => by rw [eF]; exact s_numF s 3 (sA3 (ruT (sbs s))) hs (by decide) b w R)
            (hide fun b w R => by rw [eK]; exact s_numsF s 3 (sA4 (ruT (sbs s))) hs (by decide) (sA4_bl hT) b w R)
            (hide fun b w R => by rw [eE]; exact s_prefsF s (sA5 (ruT (sbs s))) hs (sA5_bl hT) b w R)
theorem s_ru_not (s : ByteArray) (w : World) (hs : s.size ≤ 1000) (hc : ruC (sbs s) = 0) (hn : ruOk (sbs s) = false) :
    Calls Try.prog 15 #[.string s] w fun e w' => e = .returned (ruNo 3) ∧ Below w.heap.size w w' := by
  obtain ⟨h1, _⟩ := ruC_zero hc
  unfold ruOk at hn
  rw [decide_eq_true hc, Bool.true_and] at hn
  by_cases h2 : (ruT (sbs s)).1 = []
  · rw [decide_eq_true (.inl h2), Bool.and_true] at hn
    exact (s_ru_goneF s w hs h1 h2).mono fun _ _ k => k.1 hn
  · by_cases hE : ruE (sbs s) = []
    · exact s_ru_noneF s w hs hc h2 hE
    · rw [decide_eq_true (.inr hE), Bool.and_true] at hn
      exact (s_ru_goodF s w hs hc h2 hE).mono fun _ _ k => k.1 hn
theorem s_ru_good (s : ByteArray) (w : World) (hs : s.size ≤ 1000) (hn : ruOk (sbs s) = true) :
    Calls Try.prog 15 #[.string s] w fun e w' => ∃ p0 n0 p1 n1 p5 n5 p7 n7, e = .returned (.tuple #[.agg #[.slice p0 (ruG (sbs s)).length n0, .int .i64 (ruO (sbs s)), .slice p1 (ruP (sbs s)).length n1, .int .i64 (ruN (sbs s)), .int .i64 (ruM (sbs s)), .int .i64 (ruF (sbs s)), .slice p5 (ruK (sbs s)).length n5, .slice p7 (ruE (sbs s)).length n7], .int .i64 0, .bool true]) ∧ Own4 w.heap.size (.slice p0 (ruG (sbs s)).length n0) (ruG (sbs s)) (.slice p1 (ruP (sbs s)).length n1) (ruP (sbs s)) (.slice p5 (ruK (sbs s)).length n5) (ruK (sbs s)) (.slice p7 (ruE (sbs s)).length n7) (ruE (sbs s)) w' ∧ Below w.heap.size w w' := by
  unfold ruOk at hn
  simp only [Bool.and_eq_true, decide_eq_true_eq] at hn
  obtain ⟨⟨hc, hg⟩, hT⟩ := hn
  obtain ⟨h1, _⟩ := ruC_zero hc
  by_cases h2 : (ruT (sbs s)).1 = []
  · obtain ⟨eO, eP, eN, eM, eF, eK, eE⟩ := ru_zero h2
    refine (s_ru_goneF s w hs h1 h2).mono fun e w' k => ?_
    obtain ⟨p0, n0, rfl, ho, hb⟩ := k.2 hg
    refine ⟨p0, n0, none, 0, none, 0, none, 0, by rw [eO, eP, eN, eM, eF, eK, eE]; rfl, ?_, hb⟩
    rw [eP, eK, eE]
    exact ⟨w'.heap.size, w'.heap.size, w'.heap.size, ho, ownN_nil _ _ _ _, ownN_nil _ _ _ _, ownP_nil _ _, hb.size, Nat.le_refl _, Nat.le_refl _, fun k e => (World.ownsRow.lt ho k e).2, fun k e => by simp [Value.ownBlock] at e, fun k e => by simp [Value.ownBlock] at e⟩
  · exact (s_ru_goodF s w hs hc h2 (hT.resolve_left h2)).mono fun _ _ k => k.2 hg
end Go.Proofs.Ytoeephmdklmpfaa

/- The law on ReadUpdate: the program answers as the specification. -/
namespace Go.Proofs.Ytoeephmdklmpfaa
open Go.RowKit

set_option maxRecDepth 100000 in
set_option maxHeartbeats 3200000 in
theorem w_markU (o nx md pf : Int) (p0 : Option Addr) (b0 gn q0 : Nat) (f0 f1 : Nat → Int) (p1 : Option Addr) (b1 pn q1 : Nat) (f : Nat → Int) (p5 : Option Addr) (b5 kn q5 : Nat) (g : Nat → Int) (p7 : Option Addr) (b7 en q7 : Nat) (h0 h1 : Nat → Int) (w : World) (lg : gn ≤ 1048576) (lp : pn ≤ 1048576) (lk : kn ≤ 1048576) (le : en ≤ 1048576) (n01 : 0 < gn → 0 < pn → b0 ≠ b1) (n05 : 0 < gn → 0 < kn → b0 ≠ b5) (n07 : 0 < gn → 0 < en → b0 ≠ b7) (n15 : 0 < pn → 0 < kn → b1 ≠ b5) (n17 : 0 < pn → 0 < en → b1 ≠ b7) (n57 : 0 < kn → 0 < en → b5 ≠ b7) (O0 : WrP p0 b0 gn f0 f1 w) (O1 : WrI p1 b1 pn f w) (O5 : WrI p5 b5 kn g w) (O7 : WrP p7 b7 en h0 h1 w) :
    Calls Try.prog 18 #[.agg #[.slice p0 gn q0, .int .i64 o, .slice p1 pn q1, .int .i64 nx, .int .i64 md, .int .i64 pf, .slice p5 kn q5, .slice p7 en q7], .int .i64 1] w fun e w' => e = .returned (.int .i64 (1 + 2 * (gn : Int) + (pn : Int) + (kn : Int) + 2 * (en : Int))) ∧ OnS (fun k => (0 < gn ∧ k = b0) ∨ (0 < pn ∧ k = b1) ∨ (0 < kn ∧ k = b5) ∨ (0 < en ∧ k = b7)) w w' ∧ WrP p0 b0 gn (fun i => 1 + 2 * (i : Int) + 0) (fun i => 1 + 2 * (i : Int) + 1) w' ∧ WrI p1 b1 pn (fun i => (1 + 2 * (gn : Int)) + (i : Int)) w' ∧ WrI p5 b5 kn (fun i => (1 + 2 * (gn : Int)) + (pn : Int) + (i : Int)) w' ∧ WrP p7 b7 en (fun i => (1 + 2 * (gn : Int) + (pn : Int) + (kn : Int)) + 2 * (i : Int) + 0) (fun i => (1 + 2 * (gn : Int) + (pn : Int) + (kn : Int)) + 2 * (i : Int) + 1) w' := by
  have s0 := hide (fun w O => w_markP p0 b0 gn q0 f0 f1 1 w (by omega) (by omega) (by omega) O)
  have s1 := hide (fun w O O' => w_markA o nx md pf p1 b1 pn q1 f p5 b5 kn q5 g (1 + 2 * (gn : Int)) w lp lk (by omega) (by omega) n15 O O')
  have s2 := hide (fun w O => w_markP p7 b7 en q7 h0 h1 (1 + 2 * (gn : Int) + (pn : Int) + (kn : Int)) w (by omega) (by omega) (by omega) O)
  have M := Mut.new w #[.slice p0 gn q0, .int .i64 o, .slice p1 pn q1, .int .i64 nx, .int .i64 md, .int .i64 pf, .slice p5 kn q5, .slice p7 en q7] 27
  have d : Below w.heap.size w (w.alloc (.cells #[.slice p0 gn q0, .int .i64 o, .slice p1 pn q1, .int .i64 nx, .int .i64 md, .int .i64 pf, .slice p5 kn q5, .slice p7 en q7] 27)) := below_box (Below.refl _ _)
  have z0 : 0 < gn → b0 < w.heap.size := O0.lt
  have z1 : 0 < pn → b1 < w.heap.size := O1.lt
  have z5 : 0 < kn → b5 < w.heap.size := O5.lt
  have O0 := O0.below d
  have O1 := O1.below d
  have O5 := O5.below d
  have O7 := O7.below d
  clear lg lp lk le
  go_enter Try.func18, Try.ntmps18
  go_wp2_with fail
  generalize hWW : w.alloc (.cells #[.slice p0 gn q0, .int .i64 o, .slice p1 pn q1, .int .i64 nx, .int .i64 md, .int .i64 pf, .slice p5 kn q5, .slice p7 en q7] 27) = W at *
  clear hWW
  refine (s0.out _ O0).mono ?_
  rintro e w1 ⟨rfl, e1, P0⟩
  have MM := M.onS e1 (fun h => by have := z0 h.1; omega)
  have P1 := O1.onS e1 (fun h1 h2 => n01 h2.1 h1 h2.2.symm)
  have P5 := O5.onS e1 (fun h1 h2 => n05 h2.1 h1 h2.2.symm)
  have P7 := O7.onS e1 (fun h1 h2 => n07 h2.1 h1 h2.2.symm)
  have a1 := MM.2.1 1 _ rfl
  have a2 := MM.2.1 2 _ rfl
  have a3 := MM.2.1 3 _ rfl
  have a4 := MM.2.1 4 _ rfl
  have a5 := MM.2.1 5 _ rfl
  have a6 := MM.2.1 6 _ rfl
  go_wp2_with fail
  refine (s1.out _ P1 P5).mono ?_
  rintro e w2 ⟨rfl, e2, R1, R5⟩
  have MN := MM.onS e2 (fun h => h.elim (fun h => by have := z1 h.1; omega) (fun h => by have := z5 h.1; omega))
  have R0 := P0.onS e2 (fun h1 h2 => h2.elim (fun h2 => n01 h1 h2.1 h2.2) (fun h2 => n05 h1 h2.1 h2.2))
  have R7 := P7.onS e2 (fun h1 h2 => h2.elim (fun h2 => n17 h2.1 h1 h2.2.symm) (fun h2 => n57 h2.1 h1 h2.2.symm))
  have a7 := MN.2.1 7 _ rfl
  clear a1 a2 a3 a4 a5 a6
  go_wp2_with fail
  refine (s2.out _ R7).mono ?_
  rintro e w3 ⟨rfl, e3, T7⟩
  have T0 := R0.onS e3 (fun h1 h2 => n07 h1 h2.1 h2.2)
  have T1 := R1.onS e3 (fun h1 h2 => n17 h1 h2.1 h2.2)
  have T5 := R5.onS e3 (fun h1 h2 => n57 h1 h2.1 h2.2)
  have qq : OnS (fun k => (0 < gn ∧ k = b0) ∨ (0 < pn ∧ k = b1) ∨ (0 < kn ∧ k = b5) ∨ (0 < en ∧ k = b7)) w w3 := (((OnS.of_below _ d).trans (e1.mono (fun k h => .inl h))).trans (e2.mono (fun k h => h.elim (fun h => .inr (.inl h)) (fun h => .inr (.inr (.inl h)))))).trans (e3.mono (fun k h => .inr (.inr (.inr h))))
  go_wp2_with fail
  go_ret
  exact ⟨rfl, qq, T0, T1, T5, T7⟩
set_option maxRecDepth 100000 in
set_option maxHeartbeats 3200000 in
theorem w_heldU (o nx md pf : Int) (p0 : Option Addr) (gn q0 : Nat) (p1 : Option Addr) (pn q1 : Nat) (p5 : Option Addr) (kn q5 : Nat) (p7 : Option Addr) (en q7 : Nat) (w : World) (lg : gn ≤ 1048576) (lp : pn ≤ 1048576) (lk : kn ≤ 1048576) (le : en ≤ 1048576) (R0 : RowPrefix p0 gn (fun i => 1 + 2 * (i : Int) + 0) (fun i => 1 + 2 * (i : Int) + 1) w) (R1 : RowInt p1 pn (fun i => (1 + 2 * (gn : Int)) + (i : Int)) w) (R5 : RowInt p5 kn (fun i => (1 + 2 * (gn : Int)) + (pn : Int) + (i : Int)) w) (R7 : RowPrefix p7 en (fun i => (1 + 2 * (gn : Int) + (pn : Int) + (kn : Int)) + 2 * (i : Int) + 0) (fun i => (1 + 2 * (gn : Int) + (pn : Int) + (kn : Int)) + 2 * (i : Int) + 1) w) :
    Calls Try.prog 19 #[.agg #[.slice p0 gn q0, .int .i64 o, .slice p1 pn q1, .int .i64 nx, .int .i64 md, .int .i64 pf, .slice p5 kn q5, .slice p7 en q7], .int .i64 1] w fun e w' => e = .returned (.int .i64 (1 + 2 * (gn : Int) + (pn : Int) + (kn : Int) + 2 * (en : Int))) ∧ Below w.heap.size w w' := by
  have s0 := hide (fun w O => w_heldPrefixS p0 gn q0 1 w (by omega) (by omega) (by omega) O)
  have s1 := hide (fun w O O' => w_heldA o nx md pf p1 pn q1 p5 kn q5 (1 + 2 * (gn : Int)) w lp lk (by omega) (by omega) O O')
  have s2 := hide (fun w O => w_heldPrefixS p7 en q7 (1 + 2 * (gn : Int) + (pn : Int) + (kn : Int)) w (by omega) (by omega) (by omega) O)
  have k1 : ¬ ((1 + 2 * (gn : Int)) < 0) := by omega
  have k2 : ¬ ((1 + 2 * (gn : Int) + (pn : Int) + (kn : Int)) < 0) := by omega
  have k3 : ¬ ((1 + 2 * (gn : Int) + (pn : Int) + (kn : Int) + 2 * (en : Int)) < 0) := by omega
  have M := Mut.new w #[.slice p0 gn q0, .int .i64 o, .slice p1 pn q1, .int .i64 nx, .int .i64 md, .int .i64 pf, .slice p5 kn q5, .slice p7 en q7] 27
  have d : Below w.heap.size w (w.alloc (.cells #[.slice p0 gn q0, .int .i64 o, .slice p1 pn q1, .int .i64 nx, .int .i64 md, .int .i64 pf, .slice p5 kn q5, .slice p7 en q7] 27)) := below_box (Below.refl _ _)
  clear lg lp lk le
  go_enter Try.func19, Try.ntmps19
  go_wp2_with fail
  refine (s0.out _ (R0.below d)).mono ?_
  rintro e w_ ⟨rfl, hw_⟩
  rw [hw_]
  clear hw_ w_
  go_wp2_with fail
  refine (s1.out _ (R1.below d) (R5.below d)).mono ?_
  rintro e w1 ⟨rfl, e1⟩
  have MM := M.below e1
  have d1 := d.trans (e1.mono d.size)
  have a7 := MM.2.1 7 _ rfl
  clear e1 M MM
  go_wp2_with fail
  refine (s2.out _ (R7.below d1)).mono ?_
  rintro e w_ ⟨rfl, hw_⟩
  rw [hw_]
  clear hw_ w_
  go_wp2_with fail
  go_ret
  exact ⟨rfl, d1⟩
/-- An update as an answer: its lists are its own, each in a block of its own. -/
def AnsU (gn : Nat) (f0 f1 : Nat → Int) (o : Int) (pn : Nat) (f : Nat → Int) (nx md pf : Int) (kn : Nat) (g : Nat → Int) (en : Nat) (h0 h1 : Nat → Int) (C : Int) (r : Bool) (w : World) (e : Ending) (w' : World) : Prop :=
  ∃ p0 q0 b0 p1 q1 b1 p5 q5 b5 p7 q7 b7, e = .returned (.tuple #[.agg #[.slice p0 gn q0, .int .i64 o, .slice p1 pn q1, .int .i64 nx, .int .i64 md, .int .i64 pf, .slice p5 kn q5, .slice p7 en q7], .int .i64 C, .bool r]) ∧ WrP p0 b0 gn f0 f1 w' ∧ WrI p1 b1 pn f w' ∧ WrI p5 b5 kn g w' ∧ WrP p7 b7 en h0 h1 w' ∧
    (0 < gn → w.heap.size ≤ b0) ∧ (0 < pn → w.heap.size ≤ b1) ∧ (0 < kn → w.heap.size ≤ b5) ∧ (0 < en → w.heap.size ≤ b7) ∧
    (0 < gn → 0 < pn → b0 ≠ b1) ∧ (0 < gn → 0 < kn → b0 ≠ b5) ∧ (0 < gn → 0 < en → b0 ≠ b7) ∧ (0 < pn → 0 < kn → b1 ≠ b5) ∧ (0 < pn → 0 < en → b1 ≠ b7) ∧ (0 < kn → 0 < en → b5 ≠ b7) ∧ Below w.heap.size w w'
set_option maxRecDepth 100000 in
set_option maxHeartbeats 12800000 in
theorem w_readUpdate_law (s : ByteArray) (gn : Nat) (f0 f1 : Nat → Int) (o : Int) (pn : Nat) (f : Nat → Int) (nx md pf : Int) (kn : Nat) (g : Nat → Int) (en : Nat) (h0 h1 : Nat → Int) (C : Int) (r : Bool) (w : World) (hs : s.size ≤ 1048576) (lg : gn ≤ 1048576) (lp : pn ≤ 1048576) (lk : kn ≤ 1048576) (le : en ≤ 1048576)
    (S : Hid (∀ w, Calls Try.prog 15 #[.string s] w (AnsU gn f0 f1 o pn f nx md pf kn g en h0 h1 C r w)))
    (I : Hid (∀ w, Calls Try.prog 16 #[.string s] w (AnsU gn f0 f1 o pn f nx md pf kn g en h0 h1 C r w))) :
    Calls Try.prog 3 #[.string s] w fun e w' => e = .returned (.bool true) ∧ Below w.heap.size w w' := by
  have E := hide (fun ga gb gc gd a0 b0 c0 d0 a1 b1 c1 d1 ca cb cc cd w RG R0 R1 RC QG Q0 Q1 QC => w_eqUpdate ga gb gn gc gd f0 f1 o nx md pf a0 b0 pn c0 d0 f a1 b1 kn c1 d1 g ca cb en cc cd h0 h1 w (by omega) (by omega) (by omega) (by omega) RG R0 R1 RC QG Q0 Q1 QC)
  have MK := hide (fun p0 b0 q0 p1 b1 q1 p5 b5 q5 p7 b7 q7 w n01 n05 n07 n15 n17 n57 O0 O1 O5 O7 => w_markU o nx md pf p0 b0 gn q0 f0 f1 p1 b1 pn q1 f p5 b5 kn q5 g p7 b7 en q7 h0 h1 w lg lp lk le n01 n05 n07 n15 n17 n57 O0 O1 O5 O7)
  have HD := hide (fun p0 q0 p1 q1 p5 q5 p7 q7 w R0 R1 R5 R7 => w_heldU o nx md pf p0 gn q0 p1 pn q1 p5 kn q5 p7 en q7 w lg lp lk le R0 R1 R5 R7)
  have k0 : (r != r) = false := by simp
  have k1 : (C != C) = false := by simp
  have k2 : ¬ ((1 + 2 * (gn : Int) + (pn : Int) + (kn : Int) + 2 * (en : Int)) < 0) := by omega
  have k3 : ((1 + 2 * (gn : Int) + (pn : Int) + (kn : Int) + 2 * (en : Int)) != (1 + 2 * (gn : Int) + (pn : Int) + (kn : Int) + 2 * (en : Int))) = false := by simp
  have hsz : ¬ ((s.size : Int) > 1048576) := by omega
  have d0 : Below w.heap.size w w := Below.refl _ _
  clear lg lp lk le hs
  go_enter Try.func3, Try.ntmps3
  go_wp2_with fail
  refine (S.out _).mono ?_
  rintro e W1 ⟨p0s, q0s, b0s, p1s, q1s, b1s, p5s, q5s, b5s, p7s, q7s, b7s, rfl, X0s, X1s, X5s, X7s, l0s, l1s, l5s, l7s, n01s, n05s, n07s, n15s, n17s, n57s, bb⟩
  have z0s : 0 < gn → b0s < W1.heap.size := X0s.lt
  have z1s : 0 < pn → b1s < W1.heap.size := X1s.lt
  have z5s : 0 < kn → b5s < W1.heap.size := X5s.lt
  have z7s : 0 < en → b7s < W1.heap.size := X7s.lt
  have d1 := d0.trans (bb.mono d0.size)
  have y1 := bb.size
  clear bb
  go_wp2_with fail
  have bb : Below W1.heap.size W1 (W1.alloc (.cells #[.slice p0s gn q0s, .int .i64 o, .slice p1s pn q1s, .int .i64 nx, .int .i64 md, .int .i64 pf, .slice p5s kn q5s, .slice p7s en q7s] 27)) := below_box (Below.refl _ _)
  have BS := Mut.new W1 #[.slice p0s gn q0s, .int .i64 o, .slice p1s pn q1s, .int .i64 nx, .int .i64 md, .int .i64 pf, .slice p5s kn q5s, .slice p7s en q7s] 27
  have ltBS : W1.heap.size < (W1.alloc (.cells #[.slice p0s gn q0s, .int .i64 o, .slice p1s pn q1s, .int .i64 nx, .int .i64 md, .int .i64 pf, .slice p5s kn q5s, .slice p7s en q7s] 27)).heap.size := by simp
  have d2 := d1.trans (bb.mono d1.size)
  have y2 := bb.size
  have X0s := X0s.below bb
  have X1s := X1s.below bb
  have X5s := X5s.below bb
  have X7s := X7s.below bb
  clear bb
  generalize hWW : W1.alloc (.cells #[.slice p0s gn q0s, .int .i64 o, .slice p1s pn q1s, .int .i64 nx, .int .i64 md, .int .i64 pf, .slice p5s kn q5s, .slice p7s en q7s] 27) = W2 at *
  clear hWW
  refine (I.out _).mono ?_
  rintro e W3 ⟨p0g, q0g, b0g, p1g, q1g, b1g, p5g, q5g, b5g, p7g, q7g, b7g, rfl, X0g, X1g, X5g, X7g, l0g, l1g, l5g, l7g, n01g, n05g, n07g, n15g, n17g, n57g, bb⟩
  have z0g : 0 < gn → b0g < W3.heap.size := X0g.lt
  have z1g : 0 < pn → b1g < W3.heap.size := X1g.lt
  have z5g : 0 < kn → b5g < W3.heap.size := X5g.lt
  have z7g : 0 < en → b7g < W3.heap.size := X7g.lt
  have d3 := d2.trans (bb.mono d2.size)
  have y3 := bb.size
  have X0s := X0s.below bb
  have X1s := X1s.below bb
  have X5s := X5s.below bb
  have X7s := X7s.below bb
  have BS := BS.below bb
  clear bb
  have cv0 := (BS.alloc (.cells #[.slice p0g gn q0g, .int .i64 o, .slice p1g pn q1g, .int .i64 nx, .int .i64 md, .int .i64 pf, .slice p5g kn q5g, .slice p7g en q7g] 27)).2.1 0 _ rfl
  have cv1 := (BS.alloc (.cells #[.slice p0g gn q0g, .int .i64 o, .slice p1g pn q1g, .int .i64 nx, .int .i64 md, .int .i64 pf, .slice p5g kn q5g, .slice p7g en q7g] 27)).2.1 1 _ rfl
  have cv2 := (BS.alloc (.cells #[.slice p0g gn q0g, .int .i64 o, .slice p1g pn q1g, .int .i64 nx, .int .i64 md, .int .i64 pf, .slice p5g kn q5g, .slice p7g en q7g] 27)).2.1 2 _ rfl
  have cv3 := (BS.alloc (.cells #[.slice p0g gn q0g, .int .i64 o, .slice p1g pn q1g, .int .i64 nx, .int .i64 md, .int .i64 pf, .slice p5g kn q5g, .slice p7g en q7g] 27)).2.1 3 _ rfl
  have cv4 := (BS.alloc (.cells #[.slice p0g gn q0g, .int .i64 o, .slice p1g pn q1g, .int .i64 nx, .int .i64 md, .int .i64 pf, .slice p5g kn q5g, .slice p7g en q7g] 27)).2.1 4 _ rfl
  have cv5 := (BS.alloc (.cells #[.slice p0g gn q0g, .int .i64 o, .slice p1g pn q1g, .int .i64 nx, .int .i64 md, .int .i64 pf, .slice p5g kn q5g, .slice p7g en q7g] 27)).2.1 5 _ rfl
  have cv6 := (BS.alloc (.cells #[.slice p0g gn q0g, .int .i64 o, .slice p1g pn q1g, .int .i64 nx, .int .i64 md, .int .i64 pf, .slice p5g kn q5g, .slice p7g en q7g] 27)).2.1 6 _ rfl
  have cv7 := (BS.alloc (.cells #[.slice p0g gn q0g, .int .i64 o, .slice p1g pn q1g, .int .i64 nx, .int .i64 md, .int .i64 pf, .slice p5g kn q5g, .slice p7g en q7g] 27)).2.1 7 _ rfl
  go_wp2_with fail
  clear cv0 cv1 cv2 cv3 cv4 cv5 cv6 cv7
  have bb : Below W3.heap.size W3 (W3.alloc (.cells #[.slice p0g gn q0g, .int .i64 o, .slice p1g pn q1g, .int .i64 nx, .int .i64 md, .int .i64 pf, .slice p5g kn q5g, .slice p7g en q7g] 27)) := below_box (Below.refl _ _)
  have BG := Mut.new W3 #[.slice p0g gn q0g, .int .i64 o, .slice p1g pn q1g, .int .i64 nx, .int .i64 md, .int .i64 pf, .slice p5g kn q5g, .slice p7g en q7g] 27
  have ltBG : W3.heap.size < (W3.alloc (.cells #[.slice p0g gn q0g, .int .i64 o, .slice p1g pn q1g, .int .i64 nx, .int .i64 md, .int .i64 pf, .slice p5g kn q5g, .slice p7g en q7g] 27)).heap.size := by simp
  have d4 := d3.trans (bb.mono d3.size)
  have y4 := bb.size
  have X0s := X0s.below bb
  have X1s := X1s.below bb
  have X5s := X5s.below bb
  have X7s := X7s.below bb
  have BS := BS.below bb
  have X0g := X0g.below bb
  have X1g := X1g.below bb
  have X5g := X5g.below bb
  have X7g := X7g.below bb
  clear bb
  generalize hWW : W3.alloc (.cells #[.slice p0g gn q0g, .int .i64 o, .slice p1g pn q1g, .int .i64 nx, .int .i64 md, .int .i64 pf, .slice p5g kn q5g, .slice p7g en q7g] 27) = W4 at *
  clear hWW
  refine (E.out _ _ _ _ _ _ _ _ _ _ _ _ _ _ _ _ _ X0g.row X1g.row X5g.row X7g.row X0s.row X1s.row X5s.row X7s.row).mono ?_
  rintro e W5 ⟨rfl, bb⟩
  have d5 := d4.trans (bb.mono d4.size)
  have y5 := bb.size
  have X0s := X0s.below bb
  have X1s := X1s.below bb
  have X5s := X5s.below bb
  have X7s := X7s.below bb
  have BS := BS.below bb
  have X0g := X0g.below bb
  have X1g := X1g.below bb
  have X5g := X5g.below bb
  have X7g := X7g.below bb
  have BG := BG.below bb
  clear bb
  have cu0 := BG.2.1 0 _ rfl
  have cu1 := BG.2.1 1 _ rfl
  have cu2 := BG.2.1 2 _ rfl
  have cu3 := BG.2.1 3 _ rfl
  have cu4 := BG.2.1 4 _ rfl
  have cu5 := BG.2.1 5 _ rfl
  have cu6 := BG.2.1 6 _ rfl
  have cu7 := BG.2.1 7 _ rfl
  go_wp2_with fail
  clear cu0 cu1 cu2 cu3 cu4 cu5 cu6 cu7
  refine (MK.out _ _ _ _ _ _ _ _ _ _ _ _ _ n01g n05g n07g n15g n17g n57g X0g X1g X5g X7g).mono ?_
  rintro e W6 ⟨rfl, yy, Y0, Y1, Y5, Y7⟩
  have ds := d2.size
  have bb := yy.base (base := w.heap.size) (fun k h => by rcases h with ⟨h, e⟩ | ⟨h, e⟩ | ⟨h, e⟩ | ⟨h, e⟩ <;> first | (have := l0g h; omega) | (have := l1g h; omega) | (have := l5g h; omega) | (have := l7g h; omega)) d5.size
  have d6 := d5.trans bb
  have y6 := bb.size
  clear bb
  have X0s := X0s.onS yy (fun h1 h2 => by have := z0s h1; rcases h2 with ⟨h, e⟩ | ⟨h, e⟩ | ⟨h, e⟩ | ⟨h, e⟩ <;> first | (have := l0g h; omega) | (have := l1g h; omega) | (have := l5g h; omega) | (have := l7g h; omega))
  have X1s := X1s.onS yy (fun h1 h2 => by have := z1s h1; rcases h2 with ⟨h, e⟩ | ⟨h, e⟩ | ⟨h, e⟩ | ⟨h, e⟩ <;> first | (have := l0g h; omega) | (have := l1g h; omega) | (have := l5g h; omega) | (have := l7g h; omega))
  have X5s := X5s.onS yy (fun h1 h2 => by have := z5s h1; rcases h2 with ⟨h, e⟩ | ⟨h, e⟩ | ⟨h, e⟩ | ⟨h, e⟩ <;> first | (have := l0g h; omega) | (have := l1g h; omega) | (have := l5g h; omega) | (have := l7g h; omega))
  have X7s := X7s.onS yy (fun h1 h2 => by have := z7s h1; rcases h2 with ⟨h, e⟩ | ⟨h, e⟩ | ⟨h, e⟩ | ⟨h, e⟩ <;> first | (have := l0g h; omega) | (have := l1g h; omega) | (have := l5g h; omega) | (have := l7g h; omega))
  have BS := BS.onS yy (fun h2 => by rcases h2 with ⟨h, e⟩ | ⟨h, e⟩ | ⟨h, e⟩ | ⟨h, e⟩ <;> first | (have := l0g h; omega) | (have := l1g h; omega) | (have := l5g h; omega) | (have := l7g h; omega))
  have BG := BG.onS yy (fun h2 => by rcases h2 with ⟨h, e⟩ | ⟨h, e⟩ | ⟨h, e⟩ | ⟨h, e⟩ <;> first | (have := z0g h; omega) | (have := z1g h; omega) | (have := z5g h; omega) | (have := z7g h; omega))
  clear yy X0g X1g X5g X7g
  have cu0 := BG.2.1 0 _ rfl
  have cu1 := BG.2.1 1 _ rfl
  have cu2 := BG.2.1 2 _ rfl
  have cu3 := BG.2.1 3 _ rfl
  have cu4 := BG.2.1 4 _ rfl
  have cu5 := BG.2.1 5 _ rfl
  have cu6 := BG.2.1 6 _ rfl
  have cu7 := BG.2.1 7 _ rfl
  go_wp2_with fail
  clear cu0 cu1 cu2 cu3 cu4 cu5 cu6 cu7
  refine (HD.out _ _ _ _ _ _ _ _ _ Y0.row Y1.row Y5.row Y7.row).mono ?_
  rintro e W7 ⟨rfl, bb⟩
  have d7 := d6.trans (bb.mono d6.size)
  have y7 := bb.size
  have X0s := X0s.below bb
  have X1s := X1s.below bb
  have X5s := X5s.below bb
  have X7s := X7s.below bb
  have BS := BS.below bb
  have BG := BG.below bb
  have Y0 := Y0.below bb
  have Y1 := Y1.below bb
  have Y5 := Y5.below bb
  have Y7 := Y7.below bb
  clear bb
  go_wp2_with fail
  refine (I.out _).mono ?_
  rintro e W8 ⟨p0h, q0h, b0h, p1h, q1h, b1h, p5h, q5h, b5h, p7h, q7h, b7h, rfl, X0h, X1h, X5h, X7h, l0h, l1h, l5h, l7h, n01h, n05h, n07h, n15h, n17h, n57h, bb⟩
  have z0h : 0 < gn → b0h < W8.heap.size := X0h.lt
  have z1h : 0 < pn → b1h < W8.heap.size := X1h.lt
  have z5h : 0 < kn → b5h < W8.heap.size := X5h.lt
  have z7h : 0 < en → b7h < W8.heap.size := X7h.lt
  have d8 := d7.trans (bb.mono d7.size)
  have y8 := bb.size
  have X0s := X0s.below bb
  have X1s := X1s.below bb
  have X5s := X5s.below bb
  have X7s := X7s.below bb
  have BS := BS.below bb
  have BG := BG.below bb
  have Y0 := Y0.below bb
  have Y1 := Y1.below bb
  have Y5 := Y5.below bb
  have Y7 := Y7.below bb
  clear bb
  have cv0 := (BS.alloc (.cells #[.slice p0h gn q0h, .int .i64 o, .slice p1h pn q1h, .int .i64 nx, .int .i64 md, .int .i64 pf, .slice p5h kn q5h, .slice p7h en q7h] 27)).2.1 0 _ rfl
  have cv1 := (BS.alloc (.cells #[.slice p0h gn q0h, .int .i64 o, .slice p1h pn q1h, .int .i64 nx, .int .i64 md, .int .i64 pf, .slice p5h kn q5h, .slice p7h en q7h] 27)).2.1 1 _ rfl
  have cv2 := (BS.alloc (.cells #[.slice p0h gn q0h, .int .i64 o, .slice p1h pn q1h, .int .i64 nx, .int .i64 md, .int .i64 pf, .slice p5h kn q5h, .slice p7h en q7h] 27)).2.1 2 _ rfl
  have cv3 := (BS.alloc (.cells #[.slice p0h gn q0h, .int .i64 o, .slice p1h pn q1h, .int .i64 nx, .int .i64 md, .int .i64 pf, .slice p5h kn q5h, .slice p7h en q7h] 27)).2.1 3 _ rfl
  have cv4 := (BS.alloc (.cells #[.slice p0h gn q0h, .int .i64 o, .slice p1h pn q1h, .int .i64 nx, .int .i64 md, .int .i64 pf, .slice p5h kn q5h, .slice p7h en q7h] 27)).2.1 4 _ rfl
  have cv5 := (BS.alloc (.cells #[.slice p0h gn q0h, .int .i64 o, .slice p1h pn q1h, .int .i64 nx, .int .i64 md, .int .i64 pf, .slice p5h kn q5h, .slice p7h en q7h] 27)).2.1 5 _ rfl
  have cv6 := (BS.alloc (.cells #[.slice p0h gn q0h, .int .i64 o, .slice p1h pn q1h, .int .i64 nx, .int .i64 md, .int .i64 pf, .slice p5h kn q5h, .slice p7h en q7h] 27)).2.1 6 _ rfl
  have cv7 := (BS.alloc (.cells #[.slice p0h gn q0h, .int .i64 o, .slice p1h pn q1h, .int .i64 nx, .int .i64 md, .int .i64 pf, .slice p5h kn q5h, .slice p7h en q7h] 27)).2.1 7 _ rfl
  go_wp2_with fail
  clear cv0 cv1 cv2 cv3 cv4 cv5 cv6 cv7
  have bb : Below W8.heap.size W8 (W8.alloc (.cells #[.slice p0h gn q0h, .int .i64 o, .slice p1h pn q1h, .int .i64 nx, .int .i64 md, .int .i64 pf, .slice p5h kn q5h, .slice p7h en q7h] 27)) := below_box (Below.refl _ _)
  have BH := Mut.new W8 #[.slice p0h gn q0h, .int .i64 o, .slice p1h pn q1h, .int .i64 nx, .int .i64 md, .int .i64 pf, .slice p5h kn q5h, .slice p7h en q7h] 27
  have ltBH : W8.heap.size < (W8.alloc (.cells #[.slice p0h gn q0h, .int .i64 o, .slice p1h pn q1h, .int .i64 nx, .int .i64 md, .int .i64 pf, .slice p5h kn q5h, .slice p7h en q7h] 27)).heap.size := by simp
  have d9 := d8.trans (bb.mono d8.size)
  have y9 := bb.size
  have X0s := X0s.below bb
  have X1s := X1s.below bb
  have X5s := X5s.below bb
  have X7s := X7s.below bb
  have BS := BS.below bb
  have BG := BG.below bb
  have Y0 := Y0.below bb
  have Y1 := Y1.below bb
  have Y5 := Y5.below bb
  have Y7 := Y7.below bb
  have X0h := X0h.below bb
  have X1h := X1h.below bb
  have X5h := X5h.below bb
  have X7h := X7h.below bb
  clear bb
  generalize hWW : W8.alloc (.cells #[.slice p0h gn q0h, .int .i64 o, .slice p1h pn q1h, .int .i64 nx, .int .i64 md, .int .i64 pf, .slice p5h kn q5h, .slice p7h en q7h] 27) = W9 at *
  clear hWW
  refine (E.out _ _ _ _ _ _ _ _ _ _ _ _ _ _ _ _ _ X0h.row X1h.row X5h.row X7h.row X0s.row X1s.row X5s.row X7s.row).mono ?_
  rintro e W10 ⟨rfl, bb⟩
  have d10 := d9.trans (bb.mono d9.size)
  have y10 := bb.size
  have X0s := X0s.below bb
  have X1s := X1s.below bb
  have X5s := X5s.below bb
  have X7s := X7s.below bb
  have BS := BS.below bb
  have BG := BG.below bb
  have Y0 := Y0.below bb
  have Y1 := Y1.below bb
  have Y5 := Y5.below bb
  have Y7 := Y7.below bb
  have X0h := X0h.below bb
  have X1h := X1h.below bb
  have X5h := X5h.below bb
  have X7h := X7h.below bb
  have BH := BH.below bb
  clear bb
  have cu0 := BG.2.1 0 _ rfl
  have cu1 := BG.2.1 1 _ rfl
  have cu2 := BG.2.1 2 _ rfl
  have cu3 := BG.2.1 3 _ rfl
  have cu4 := BG.2.1 4 _ rfl
  have cu5 := BG.2.1 5 _ rfl
  have cu6 := BG.2.1 6 _ rfl
  have cu7 := BG.2.1 7 _ rfl
  go_wp2_with fail
  clear cu0 cu1 cu2 cu3 cu4 cu5 cu6 cu7
  refine (HD.out _ _ _ _ _ _ _ _ _ Y0.row Y1.row Y5.row Y7.row).mono ?_
  rintro e W11 ⟨rfl, bb⟩
  have d11 := d10.trans (bb.mono d10.size)
  have y11 := bb.size
  have X0s := X0s.below bb
  have X1s := X1s.below bb
  have X5s := X5s.below bb
  have X7s := X7s.below bb
  have BS := BS.below bb
  have BG := BG.below bb
  have Y0 := Y0.below bb
  have Y1 := Y1.below bb
  have Y5 := Y5.below bb
  have Y7 := Y7.below bb
  have X0h := X0h.below bb
  have X1h := X1h.below bb
  have X5h := X5h.below bb
  have X7h := X7h.below bb
  have BH := BH.below bb
  clear bb
  go_wp2_with fail
  go_ret
  exact ⟨rfl, d11⟩
theorem ansU_no (k : Int) (w : World) {e : Ending} {w' : World} (h : e = .returned (ruNo k) ∧ Below w.heap.size w w') : AnsU 0 (fun _ => 0) (fun _ => 0) 0 0 (fun _ => 0) 0 0 0 0 (fun _ => 0) 0 (fun _ => 0) (fun _ => 0) k false w e w' :=
  ⟨none, 0, 0, none, 0, 0, none, 0, 0, none, 0, 0, h.1, fun q => absurd q (Nat.lt_irrefl 0), fun q => absurd q (Nat.lt_irrefl 0), fun q => absurd q (Nat.lt_irrefl 0), fun q => absurd q (Nat.lt_irrefl 0), fun q => absurd q (Nat.lt_irrefl 0), fun q => absurd q (Nat.lt_irrefl 0), fun q => absurd q (Nat.lt_irrefl 0), fun q => absurd q (Nat.lt_irrefl 0), fun q => absurd q (Nat.lt_irrefl 0), fun q => absurd q (Nat.lt_irrefl 0), fun q => absurd q (Nat.lt_irrefl 0), fun q => absurd q (Nat.lt_irrefl 0), fun q => absurd q (Nat.lt_irrefl 0), fun q => absurd q (Nat.lt_irrefl 0), h.2⟩
theorem WrP.own {base : Nat} {a : Option Addr} {cap : Nat} {L : List Pf} {w : World} (h : OwnP base (.slice a L.length cap) L w) : ∃ c, WrP a c L.length (fun i => (pAt L i).1) (fun i => (pAt L i).2) w ∧ (0 < L.length → base ≤ c ∧ (Value.slice a L.length cap).ownBlock = some c) := by
  by_cases hn : L = []
  · subst hn; exact ⟨0, fun q => absurd q (Nat.lt_irrefl 0), fun q => absurd q (Nat.lt_irrefl 0)⟩
  · obtain ⟨c, q, e, hb, hc⟩ := ownP_shape h hn
    simp only [Value.slice.injEq, true_and] at e
    obtain ⟨rfl, rfl⟩ := e
    exact ⟨c, fun _ => ⟨rfl, ownP_out h hc⟩, fun _ => ⟨hb, rfl⟩⟩
theorem WrI.own {e : TypeId} {base : Nat} {a : Option Addr} {cap : Nat} {L : List Int} {w : World} (h : OwnN e .i64 base (.slice a L.length cap) L w) : ∃ c, WrI a c L.length (fun i => L.getD i 0) w ∧ (0 < L.length → base ≤ c ∧ (Value.slice a L.length cap).ownBlock = some c) := by
  by_cases hn : L = []
  · subst hn; exact ⟨0, fun q => absurd q (Nat.lt_irrefl 0), fun q => absurd q (Nat.lt_irrefl 0)⟩
  · obtain ⟨c, q, e, hb, hc⟩ := ownN_shape h hn
    simp only [Value.slice.injEq, true_and] at e
    obtain ⟨rfl, rfl⟩ := e
    exact ⟨c, fun _ => ⟨rfl, ownN_out h⟩, fun _ => ⟨hb, rfl⟩⟩
theorem ansU_yes (V0 : List Pf) (v0 : Int) (V1 : List Int) (v2 v3 v4 : Int) (V5 : List Int) (V7 : List Pf) (w : World) {e : Ending} {w' : World}
    (h : ∃ p0 n0 p1 n1 p5 n5 p7 n7, e = .returned (.tuple #[.agg #[.slice p0 V0.length n0, .int .i64 v0, .slice p1 V1.length n1, .int .i64 v2, .int .i64 v3, .int .i64 v4, .slice p5 V5.length n5, .slice p7 V7.length n7], .int .i64 0, .bool true]) ∧ Own4 w.heap.size (.slice p0 V0.length n0) V0 (.slice p1 V1.length n1) V1 (.slice p5 V5.length n5) V5 (.slice p7 V7.length n7) V7 w' ∧ Below w.heap.size w w') :
    AnsU V0.length (fun i => (pAt V0 i).1) (fun i => (pAt V0 i).2) v0 V1.length (fun i => V1.getD i 0) v2 v3 v4 V5.length (fun i => V5.getD i 0) V7.length (fun i => (pAt V7 i).1) (fun i => (pAt V7 i).2) 0 true w e w' := by
  obtain ⟨p0, n0, p1, n1, p5, n5, p7, n7, he, ⟨M1, M2, M3, O0, O1, O5, O7, m1, m2, m3, k0, k1, k5⟩, hb⟩ := h
  obtain ⟨c0, W0, e0⟩ := WrP.own O0
  obtain ⟨c1, W1, e1⟩ := WrI.own O1
  obtain ⟨c5, W5, e5⟩ := WrI.own O5
  obtain ⟨c7, W7, e7⟩ := WrP.own O7
  refine ⟨p0, n0, c0, p1, n1, c1, p5, n5, c5, p7, n7, c7, he, W0, W1, W5, W7, fun h => (e0 h).1, fun h => by have := (e1 h).1; omega, fun h => by have := (e5 h).1; omega, fun h => by have := (e7 h).1; omega, fun a b => ?_, fun a b => ?_, fun a b => ?_, fun a b => ?_, fun a b => ?_, fun a b => ?_, hb⟩
  · have := k0 _ (e0 a).2; have := (e1 b).1; omega
  · have := k0 _ (e0 a).2; have := (e5 b).1; omega
  · have := k0 _ (e0 a).2; have := (e7 b).1; omega
  · have := k1 _ (e1 a).2; have := (e5 b).1; omega
  · have := k1 _ (e1 a).2; have := (e7 b).1; omega
  · have := k5 _ (e5 a).2; have := (e7 b).1; omega
theorem w_readUpdate (s : ByteArray) (w : World) (hs : s.size ≤ maxLen) :
    Calls Try.prog 3 #[.string s] w fun e w' => e = .returned (.bool true) ∧ Below w.heap.size w w' := by
  by_cases h20 : s.size ≤ 1048576
  · by_cases h : 1000 < s.size
    · exact w_readUpdate_law s _ _ _ _ _ _ _ _ _ _ _ _ _ _ 0 false w h20 (by decide) (by decide) (by decide) (by decide) (hide fun w => (s_ru_out s w hs h).mono fun _ _ k => ansU_no 0 w k) (hide fun w => (i_ru_out s w hs h).mono fun _ _ k => ansU_no 0 w k)
    · have hs' : s.size ≤ 1000 := by omega
      have hB : Bl (sbs s) := sbs_byte s
      by_cases hc : ruC (sbs s) = 0
      · cases hn : ruOk (sbs s) with
        | false => exact w_readUpdate_law s _ _ _ _ _ _ _ _ _ _ _ _ _ _ 3 false w h20 (by decide) (by decide) (by decide) (by decide) (hide fun w => (s_ru_not s w hs' hc hn).mono fun _ _ k => ansU_no 3 w k) (hide fun w => (i_ru_not s w hs' hc hn).mono fun _ _ k => ansU_no 3 w k)
        | true =>
          have k0 := ruG_len hB
          have k1 := ruP_len hB
          have k5 := ruK_len hB
          have k7 := ruE_len hB
          exact w_readUpdate_law s _ _ _ _ _ _ _ _ _ _ _ _ _ _ 0 true w h20 (by omega) (by omega) (by omega) (by omega) (hide fun w => (s_ru_good s w hs' hn).mono fun _ _ k => ansU_yes _ _ _ _ _ _ _ _ w k) (hide fun w => (i_ru_good s w hs' hn).mono fun _ _ k => ansU_yes _ _ _ _ _ _ _ _ w k)
      · exact w_readUpdate_law s _ _ _ _ _ _ _ _ _ _ _ _ _ _ (ruC (sbs s)) false w h20 (by decide) (by decide) (by decide) (by decide) (hide fun w => (s_ru_code s w hs' hc).mono fun _ _ k => ansU_no _ w k) (hide fun w => (i_ru_code s w hs' hc).mono fun _ _ k => ansU_no _ w k)
  · have h' : (s.size : Int) > 1048576 := by omega
    unfold maxLen at hs
    go_enter Try.func3, Try.ntmps3
    go_wp2_with fail
    go_ret
    exact ⟨rfl, Below.refl _ _⟩
end Go.Proofs.Ytoeephmdklmpfaa

namespace Go.Proofs.Ytoeephmdklmpfaa
open Go.ChangeShapes Go.WideShapes Go.ChangeAt Go.RowKit Go.Joins
open Go.ChangeMaps (open_string shut_string)

namespace RFnExactReadUpdate
theorem own : ownKnob Try.prog.godebug = none := by kernel_rfl
theorem laidOut : laidOutB Try.prog = true := by kernel_rfl

set_option maxRecDepth 100000 in
theorem lifted (os : Os) (started : os.Started) (H : Type) (enc : TypeId × Value → H) :
    ReturnsInHanded {} Try.checked os 3 .any (Rows.fnExactReadUpdateSpec.pre6 enc Try.prog Try.f3 Rows.fnExactReadUpdateRow.domain false) (Rows.fnExactReadUpdateSpec.post enc Try.prog Try.f3 false true false false) := by
  refine returnsInHanded_of_change (C := Try.checked) own started (by kernel_rfl) Try.func3
    (ChangeSpec.witness6 (enc := enc) (C := Try.checked) false ⟨#[], #[.string ByteArray.empty], []⟩ 8 (by kernel_rfl) (by kernel_rfl) (by kernel_rfl) (by kernel_rfl)) ?_
  intro W base args ds gs before hval0 hW hcnd _
  have hval : ∀ (j : Nat) t v, Try.f3.params[j]? = some t → args[j]? = some v → Value.okWide Try.prog W .any base t v := hval0
  have hW' := hW
  obtain ⟨p, q, hA0, hV, rfl, hfz, hnd⟩ := hW
  have hA : DataW.TrodAll enc Try.prog W 0 (fun _ => true) true Try.f3.params.toList args.toList ds p := hA0
  rw [Try.params3] at hA hval
  obtain ⟨v0, vs0, d0, ds0, p0, q0, hargs, rfl, rfl, h0, r0⟩ := trodAll_cons hA
  obtain ⟨rfl, rfl, rfl⟩ := trodAll_nil r0
  obtain rfl : args = #[v0] := by cases args; simp_all
  obtain ⟨rfl, rfl⟩ := trodVars_none hV
  have k0 := h0
  have lt0 : ∀ x ∈ p0, x.block < W.heap.size := by obtain ⟨m, hm⟩ := k0; exact DataW.trod_lt m _ _ _ hm
  obtain ⟨s0, rfl, hs0⟩ : ∃ s : ByteArray, v0 = .string s ∧ s.size ≤ maxLen := by
    obtain ⟨s, rfl, _, _, hs⟩ := open_string Try.underlying9 (hval 0 9 v0 rfl rfl) h0
    exact ⟨s, rfl, hs⟩
  clear hA0 hval0
  refine (w_readUpdate s0 W hs0).mono fun e W' ⟨he, bel⟩ => ?_
  subst he
  exact ⟨_, rfl, _, _, _, [], _, [], hW', trodAll_mk1 (shut_bool Try.underlying4 _), (trodAll_cons_mk (Below.trod laidOut (by kernel_rfl) (of_decide_eq_true (by kernel_rfl)) k0 bel lt0) trodAll_mk0), rfl, bel.frame _, fun h => by cases h⟩

end RFnExactReadUpdate

theorem fnExactReadUpdate_holds : Rows.FnExactReadUpdateSaid :=
  OpenClaim.holds_of_wide 3 Try.f3 rfl rfl rfl rfl rfl rfl rfl ⟨rfl, rfl, rfl, rfl, rfl⟩ rfl rfl rfl rfl rfl (by kernel_rfl) Try.func3 (by kernel_rfl)
    (of_decide_eq_true (by kernel_rfl)) (by unfold Func.isWrapper; first | (rw [if_pos (by decide +kernel)]; kernel_rfl) | (rw [if_neg (by decide +kernel)]; exact ⟨rfl, rfl⟩))
    (fun os started H enc _ => RFnExactReadUpdate.lifted os started H enc)

#print axioms fnExactReadUpdate_holds
end Go.Proofs.Ytoeephmdklmpfaa
