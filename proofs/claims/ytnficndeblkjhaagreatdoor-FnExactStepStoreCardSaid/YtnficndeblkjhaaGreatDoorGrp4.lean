/- Lists of lists of leaves of one's own that grow. -/
import Derived.Test.YtnficndeblkjhaaGreatDoorGrp3
import Derived.Test.YtnficndeblkjhaaGreatDoorAns15
/- Stores in memory: their size, a copy, a comparison; as an answer: marked, held. -/
namespace Go.Proofs.YtnficndeblkjhaaGreatDoor
open Go.RowKit

theorem AnsF.mono {va : Option Addr} {N : Nat} {T : Nat → Lf} {P Q : Nat → Prop} {w : World} (h : AnsF va N T P w) (k : ∀ x, P x → Q x) : AnsF va N T Q w := by
  refine ⟨h.1, ?_⟩
  rcases h.2 with e | ⟨g, X, K, h1, h2, h3, h4⟩
  · exact .inl e
  · exact .inr ⟨g, X, K, h1, h2, h3, fun x hx => k x (h4 x hx)⟩
theorem RowFO.ans {c n : Nat} {X : Nat → Nat} {hi : Nat} {T : Nat → Lf} {w : World} (h : RowFO c n X hi T w) (F : FreeC c (n * 2) w) (hc : c < hi) : AnsF (some ⟨c, 0, none⟩) n T (fun k => c ≤ k ∧ k < hi) w := by
  obtain ⟨h1, h2, h3⟩ := h.own F
  refine ⟨h.row, .inr ⟨c, X, _, rfl, h1, h2, fun k hk => ?_⟩⟩
  have := h3 k hk
  omega
theorem LsF.ansI {v : Value} {L : List El15} {n : Nat} {T : Nat → Lf} {w w' : World} (h : LsF w.heap.size v L w') (hM : L.map (·.t) = lsF n T) : ∃ va vc, v = .slice va n vc ∧ AnsF va n T (fun k => w.heap.size ≤ k ∧ k < w'.heap.size) w' := by
  obtain ⟨va, vc, e, hA, hP⟩ := h.ans hM
  rw [lsF_len] at e hA
  refine ⟨va, vc, e, ?_⟩
  have hA := hA.mono hP
  refine ⟨fun i hi => ?_, ?_⟩
  · have := hA.1 i hi
    rw [lsF_at hi] at this
    exact this
  · rcases hA.2 with e | ⟨g, X, K, h1, h2, h3, h4⟩
    · exact .inl e
    · refine .inr ⟨g, X, K, h1, fun i hi => ?_, h3, h4⟩
      have := h2 i hi
      unfold OneFA at this ⊢
      rw [lsF_at hi] at this
      exact this
/-- Lists of leaves in block c, k of them: the blocks of list i lie from B i on and ahead of E i. -/
def PreX (c k : Nat) (H : Nat → Cf) (B E : Nat → Nat) (w : World) : Prop := (∀ i, i < k → c < B i ∧ B i ≤ E i ∧ E i ≤ w.heap.size) ∧ (∀ i j, i < j → j < k → E i ≤ B j) ∧ ∀ i, i < k → ∃ (a0 : Option Addr) (c0 : Nat), w.cell? ⟨c, i, none⟩ = some (.slice a0 (H i).n c0) ∧ AnsF a0 (H i).n (H i).T (fun x => B i ≤ x ∧ x < E i) w
theorem PreX.below {c k : Nat} {H : Nat → Cf} {B E : Nat → Nat} {w w' : World} (h : PreX c k H B E w) (hc : c < w.heap.size) (b : Below w.heap.size w w') : PreX c k H B E w' := by
  obtain ⟨h1, h2, h4⟩ := h
  refine ⟨fun i hi => ⟨(h1 i hi).1, (h1 i hi).2.1, Nat.le_trans (h1 i hi).2.2 b.size⟩, h2, fun i hi => ?_⟩
  obtain ⟨a0, c0, e, hA⟩ := h4 i hi
  exact ⟨a0, c0, ((bcell b).1 _ _ hc).trans e, hA.below b⟩
theorem PreX.push {c k : Nat} {H : Nat → Cf} {B E : Nat → Nat} {w : World} (h : PreX c k H B E w) {lo top : Nat} {a0 : Option Addr} {c0 : Nat} (hlo : ∀ i, i < k → E i ≤ lo) (hc : c < lo) (hlh : lo ≤ top) (hhi : top ≤ w.heap.size) (hv : ∃ v, w.cell? ⟨c, k, none⟩ = some v) (hA : AnsF a0 (H k).n (H k).T (fun x => lo ≤ x ∧ x < top) w) :
    ∃ B' E', PreX c (k + 1) H B' E' (w.setCell ⟨c, k, none⟩ (.slice a0 (H k).n c0)) := by
  obtain ⟨h1, h2, h4⟩ := h
  have q : OnlyP (fun x => x = c) w (w.setCell ⟨c, k, none⟩ (.slice a0 (H k).n c0)) := (OnlyP.refl (fun x => x = c) w).set15 rfl _ _
  refine ⟨fun i => if i < k then B i else lo, fun i => if i < k then E i else top, fun i hi => ?_, fun i j hij hj => ?_, fun i hi => ?_⟩
  · by_cases e : i < k
    · simp only [if_pos e]
      have := h1 i e
      exact ⟨this.1, this.2.1, by simpa using this.2.2⟩
    · simp only [if_neg e]
      exact ⟨hc, hlh, by simpa using hhi⟩
  · have e : i < k := by omega
    simp only [if_pos e]
    by_cases e2 : j < k
    · rw [if_pos e2]; exact h2 i j hij e2
    · rw [if_neg e2]; exact hlo i e
  · by_cases e : i < k
    · simp only [if_pos e]
      obtain ⟨a1, c1, e1, hA1⟩ := h4 i e
      refine ⟨a1, c1, by rw [World.cell?_setCell_other _ _ _ _ (by simp <;> omega)]; exact e1, hA1.onlyP q (fun x hx e3 => by have := (h1 i e).1; omega)⟩
    · simp only [if_neg e]
      obtain rfl : i = k := by omega
      obtain ⟨v, hv⟩ := hv
      exact ⟨a0, c0, by simp [go_sem, hv], hA.onlyP q (fun x hx e3 => by omega)⟩
/-- Lists of leaves of one's own: the blocks of list i lie from B i on and ahead of E i, one list behind the other one, all from lo on and below hi; the block of the lists is none of them. -/
def AnsX (a : Option Addr) (h : Nat) (H : Nat → Cf) (lo hi : Nat) (w : World) : Prop := hi ≤ w.heap.size ∧ lo ≤ hi ∧ (h = 0 ∨ ∃ (B E : Nat → Nat) (g : Nat), (∀ i, i < h → lo ≤ B i ∧ B i ≤ E i ∧ E i ≤ hi) ∧ (∀ i j, i < j → j < h → E i ≤ B j) ∧ a = some ⟨g, 0, none⟩ ∧ g < w.heap.size ∧ (∀ j, j < h → g < B j ∨ E j ≤ g) ∧ lo ≤ g ∧ g < hi ∧ ∀ i, i < h → ∃ (a0 : Option Addr) (c0 : Nat), w.cell? ⟨g, i, none⟩ = some (.slice a0 (H i).n c0) ∧ AnsF a0 (H i).n (H i).T (fun k => B i ≤ k ∧ k < E i) w)
theorem PreX.ans {c h : Nat} {H : Nat → Cf} {B E : Nat → Nat} {w : World} (P : PreX c h H B E w) (hc : c < w.heap.size) : AnsX (some ⟨c, 0, none⟩) h H c w.heap.size w := by
  obtain ⟨h1, h2, h4⟩ := P
  exact ⟨Nat.le_refl _, Nat.le_of_lt hc, .inr ⟨B, E, c, fun i hi => ⟨Nat.le_of_lt (h1 i hi).1, (h1 i hi).2⟩, h2, rfl, hc, fun j hj => .inl (h1 j hj).1, Nat.le_refl _, hc, h4⟩⟩
theorem AnsX.below {a : Option Addr} {h : Nat} {H : Nat → Cf} {lo hi : Nat} {w w' : World} (A : AnsX a h H lo hi w) (b : Below w.heap.size w w') : AnsX a h H lo hi w' := by
  obtain ⟨h0, h1, h5⟩ := A
  refine ⟨Nat.le_trans h0 b.size, h1, ?_⟩
  rcases h5 with e | ⟨B, E, g, h2, h3, ha, hg, hj, l1, l2, h6⟩
  · exact .inl e
  · refine .inr ⟨B, E, g, h2, h3, ha, Nat.lt_of_lt_of_le hg b.size, hj, l1, l2, fun i hi => ?_⟩
    obtain ⟨a0, c0, e, hA⟩ := h6 i hi
    exact ⟨a0, c0, ((bcell b).1 _ _ hg).trans e, hA.below b⟩
theorem AnsX.onlyP {S : Nat → Prop} {a : Option Addr} {h : Nat} {H : Nat → Cf} {lo hi : Nat} {w w' : World} (A : AnsX a h H lo hi w) (b : OnlyP S w w') (hS : ∀ k, lo ≤ k → k < hi → ¬ S k) : AnsX a h H lo hi w' := by
  obtain ⟨h0, h1, h5⟩ := A
  refine ⟨Nat.le_trans h0 b.2.2.2.1, h1, ?_⟩
  rcases h5 with e | ⟨B, E, g, h2, h3, ha, hg, hj, l1, l2, h6⟩
  · exact .inl e
  · refine .inr ⟨B, E, g, h2, h3, ha, Nat.lt_of_lt_of_le hg b.2.2.2.1, hj, l1, l2, fun i hi => ?_⟩
    obtain ⟨a0, c0, e, hA⟩ := h6 i hi
    have hq := h2 i hi
    exact ⟨a0, c0, (b.cell hg (hS g l1 l2)).trans e, hA.onlyP b (fun k hk => hS k (by omega) (by omega))⟩
theorem AnsX.row {a : Option Addr} {h : Nat} {H : Nat → Cf} {lo hi : Nat} {w : World} (A : AnsX a h H lo hi w) : RowX true a h H w := by
  obtain ⟨h0, h1, h5⟩ := A
  intro i hi
  rcases h5 with e | ⟨B, E, g, h2, h3, ha, hg, hj, l1, l2, h6⟩
  · omega
  · obtain ⟨a0, c0, e, hA⟩ := h6 i hi
    exact ⟨g, 0, a0, c0, ha, hg, by rw [Nat.zero_add]; exact e, hA.1⟩
theorem AnsX.wide {a : Option Addr} {h : Nat} {H : Nat → Cf} {lo hi lo' hi' : Nat} {w : World} (A : AnsX a h H lo hi w) (h1 : lo' ≤ lo) (h2 : hi ≤ hi') (h3 : hi' ≤ w.heap.size) : AnsX a h H lo' hi' w := by
  obtain ⟨k0, k1, k5⟩ := A
  refine ⟨h3, by omega, ?_⟩
  rcases k5 with e | ⟨B, E, g, k2, k3, ha, hg, hj, l1, l2, h6⟩
  · exact .inl e
  · exact .inr ⟨B, E, g, fun i hi => by have := k2 i hi; omega, k3, ha, hg, hj, by omega, by omega, h6⟩
/-- A store of one's own, its blocks from lo on and below hi. -/
def AnsSt (v : Value) (s : Sto) (lo hi : Nat) (w : World) : Prop := ∃ ca kc ra kr ha kh m1 m2, v = stV s ca kc ra kr ha kh ∧ lo ≤ m1 ∧ m1 ≤ m2 ∧ m2 ≤ hi ∧ hi ≤ w.heap.size ∧ s.h ≤ kh ∧ AnsF ca s.C.n s.C.T (fun k => lo ≤ k ∧ k < m1) w ∧ AnsF ra s.R.n s.R.T (fun k => m1 ≤ k ∧ k < m2) w ∧ AnsX ha s.h s.H m2 hi w
theorem AnsSt.row {v : Value} {s : Sto} {lo hi : Nat} {w : World} (h : AnsSt v s lo hi w) : RowSt true v s w := by
  obtain ⟨ca, kc, ra, kr, ha, kh, m1, m2, e, _, _, _, _, hk, h1, h2, h3⟩ := h
  exact ⟨ca, kc, ra, kr, ha, kh, e, h1.1, h2.1, h3.row, hk⟩
theorem AnsSt.below {v : Value} {s : Sto} {lo hi : Nat} {w w' : World} (h : AnsSt v s lo hi w) (b : Below w.heap.size w w') : AnsSt v s lo hi w' := by
  obtain ⟨ca, kc, ra, kr, ha, kh, m1, m2, e, l1, l2, l3, l4, hk, h1, h2, h3⟩ := h
  exact ⟨ca, kc, ra, kr, ha, kh, m1, m2, e, l1, l2, l3, Nat.le_trans l4 b.size, hk, h1.below b, h2.below b, h3.below b⟩
theorem AnsSt.onlyP {S : Nat → Prop} {v : Value} {s : Sto} {lo hi : Nat} {w w' : World} (h : AnsSt v s lo hi w) (b : OnlyP S w w') (hS : ∀ k, lo ≤ k → k < hi → ¬ S k) : AnsSt v s lo hi w' := by
  obtain ⟨ca, kc, ra, kr, ha, kh, m1, m2, e, l1, l2, l3, l4, hk, h1, h2, h3⟩ := h
  exact ⟨ca, kc, ra, kr, ha, kh, m1, m2, e, l1, l2, l3, Nat.le_trans l4 b.2.2.2.1, hk, h1.onlyP b (fun k hk => hS k (by omega) (by omega)), h2.onlyP b (fun k hk => hS k (by omega) (by omega)), h3.onlyP b (fun k h1 h2 => hS k (by omega) (by omega))⟩
theorem AnsSt.size {v : Value} {s : Sto} {lo hi : Nat} {w : World} (h : AnsSt v s lo hi w) : lo ≤ hi ∧ hi ≤ w.heap.size := by
  obtain ⟨ca, kc, ra, kr, ha, kh, m1, m2, e, l1, l2, l3, l4, hk, h1, h2, h3⟩ := h
  omega
theorem AnsSt.wide {v : Value} {s : Sto} {lo hi lo' hi' : Nat} {w : World} (h : AnsSt v s lo hi w) (q1 : lo' ≤ lo) (q2 : hi ≤ hi') (q3 : hi' ≤ w.heap.size) : AnsSt v s lo' hi' w := by
  obtain ⟨ca, kc, ra, kr, ha, kh, m1, m2, e, l1, l2, l3, l4, hk, h1, h2, h3⟩ := h
  exact ⟨ca, kc, ra, kr, ha, kh, m1, m2, e, by omega, l2, by omega, q3, hk, h1.mono (fun x hx => by omega), h2, h3.wide (Nat.le_refl _) q2 q3⟩
/-- What marks do to a configuration, to lists of them, and to a store. -/
def mkC (k0 : Nat) (c : Cf) : Cf := ⟨c.n, halfF k0 c.T c.n⟩
def kmc (k0 : Nat) (c : Cf) : Nat := kmF k0 c.T c.n
def kmX (k0 : Nat) (H : Nat → Cf) : Nat → Nat
  | 0 => k0
  | i + 1 => kmc (kmX k0 H i) (H i)
theorem kmc_eq (k0 : Nat) (c : Cf) : kmc k0 c = k0 + szc c := by unfold kmc kmF szc; omega
theorem kmX_eq (k0 : Nat) (H : Nat → Cf) (i : Nat) : kmX k0 H i = k0 + totX H i := by
  induction i with
  | zero => rfl
  | succ i ih =>
    show kmc (kmX k0 H i) (H i) = _
    rw [kmc_eq, ih]
    show _ = k0 + (totX H i + szc (H i))
    omega
def mkX (k0 : Nat) (H : Nat → Cf) (k : Nat) (i : Nat) : Cf := if i < k then mkC (kmX k0 H i) (H i) else H i
theorem mkX_n (k0 : Nat) (H : Nat → Cf) (k i : Nat) : (mkX k0 H k i).n = (H i).n := by
  unfold mkX
  by_cases h : i < k
  · rw [if_pos h]; rfl
  · rw [if_neg h]
def mkSt (k0 : Nat) (s : Sto) : Sto := ⟨mkC k0 s.C, mkC (kmc k0 s.C) s.R, s.h, mkX (kmc (kmc k0 s.C) s.R) s.H s.h, s.l⟩
def kmSt (k0 : Nat) (s : Sto) : Nat := kmX (kmc (kmc k0 s.C) s.R) s.H s.h
theorem kmSt_le {k0 : Nat} {s : Sto} (h : LowSt s) (h0 : k0 ≤ 1000000) : k0 ≤ kmSt k0 s ∧ kmSt k0 s ≤ 5000000 := by
  unfold kmSt
  rw [kmX_eq, kmc_eq, kmc_eq]
  have h1 := h.1.1
  have h2 := h.2.1.1
  have h3 := h.2.2.2.2
  omega
set_option maxRecDepth 100000 in
set_option maxHeartbeats 1600000 in
theorem w_szLeafSS (a : Option Addr) (h c : Nat) (H : Nat → Cf) (m : Int) (w : World) (hn : h ≤ maxLen) (hx : ∀ i, i < h → MaxCf (H i)) (hm : m ≤ 1048576) (hm0 : 0 ≤ m) (hR : RowX false a h H w) :
    Calls Tryz.prog 26 #[.slice a h c, .int .i64 m] w fun e w' => ∃ r : Int, e = .returned (.int .i64 r) ∧ (r = -1 ∨ (0 ≤ r ∧ r + h + totX H h ≤ m ∧ ∀ i, i < h → LowCf (H i))) ∧ Below w.heap.size w w' := by
  unfold maxLen at hn
  by_cases h0 : (h : Int) ≤ m
  · have q0 : ¬ (m - (h : Int) < 0) := by omega
    go_enter Tryz.func26, Tryz.ntmps26
    go_wp2_with fail
    go_loopw [1, 5] (fun x y wr => ∃ (k : Nat) (l : Int), x = .int .i64 l ∧ y = .int .i64 k ∧ k ≤ h ∧ 0 ≤ l ∧ l + h + totX H k ≤ m ∧ Hid (∀ i, i < k → LowCf (H i)) ∧ Below w.heap.size w wr) (fun _ y _ => h - (intOf y).toNat)
    case atStart => exact ⟨0, _, rfl, rfl, Nat.zero_le _, by omega, by show (m - (h : Int)) + h + ((0 : Nat) : Int) ≤ m; omega, fun i hi => absurd hi (by omega), Below.refl _ _⟩
    case round =>
      clear q0
      obtain ⟨k, l, rfl, rfl, hk, l0, l1, hL, hb⟩ := hrel
      by_cases hlt : k < h
      · obtain ⟨b, off, a0, c0, rfl, hbw, u0, R0⟩ := hR k hlt
        replace u0 := (hb.cell (p := ⟨b, off + k, none⟩) hbw).trans u0
        have R0 := hide (R0.below hb)
        have hlt' : (k : Int) < (h : Int) := by omega
        have l2 := hx k hlt
        have ST := hide (fun w R => w_szLeafS a0 (H k).n c0 (H k).T l w l2.1 l2.2 (by omega) l0 R)
        have hs : Hid (totX H (k + 1) = totX H k + szc (H k)) := rfl
        have hz : Hid (szc (H k) = (H k).n + totF (H k).T (H k).n) := rfl
        have hL2 := hide (fun (q : LowCf (H k)) i (hi : i < k + 1) => (show LowCf (H i) from by
          by_cases e : i = k
          · subst e; exact q
          · exact hL.out i (by omega)))
        clear hR hx hL l2
        generalize H k = t at *
        go_wp2_with fail
        refine (ST.out _ R0.out).mono ?_
        rintro e w3 ⟨r, rfl, hr, b3⟩
        have d3 := hb.trans (b3.mono hb.size)
        clear b3 u0
        rcases hr with rfl | ⟨r0, r1, r3⟩
        · go_wp2_with fail
          go_ret
          exact ⟨-1, rfl, Or.inl rfl, d3⟩
        · have hN : Hid (r + h + totX H (k + 1) ≤ m) := by
            have := hs.out
            have := hz.out
            show _ ≤ _
            omega
          have hL3 := hide (hL2.out ⟨by have := hz.out; omega, r3⟩)
          have hn0 : ¬ (r < 0) := by omega
          clear hs hz hL2 r3 r1
          go_wp2_with fail
          exact ⟨⟨k + 1, r, rfl, by go_num, by omega, r0, hN.out, hL3.out, d3⟩, by simp [intOf]; omega⟩
      · have hlt' : ¬ (k : Int) < (h : Int) := by omega
        obtain rfl : k = h := by omega
        clear hR
        go_wp2_with fail
        go_ret
        exact ⟨l, rfl, Or.inr ⟨l0, l1, hL.out⟩, hb⟩
  · have q0 : m - (h : Int) < 0 := by omega
    clear hR
    go_enter Tryz.func26, Tryz.ntmps26
    go_wp2_with fail
    go_ret
    exact ⟨-1, rfl, Or.inl rfl, Below.refl _ _⟩
set_option maxRecDepth 100000 in
set_option maxHeartbeats 1600000 in
theorem w_szStore (v : Value) (s : Sto) (m : Int) (w : World) (hn : MaxSt s) (hm : m ≤ 1048576) (hm0 : 0 ≤ m) (hR : RowSt false v s w) :
    Calls Tryz.prog 5 #[v, .int .i64 m] w fun e w' => ∃ r : Int, e = .returned (.int .i64 r) ∧ (r = -1 ∨ (0 ≤ r ∧ r ≤ m ∧ LowSt s)) ∧ Below w.heap.size w w' := by
  obtain ⟨ca, kc, ra, kr, ha, kh, rfl, R1, R2, R3, _⟩ := hR
  obtain ⟨n1, n2, n3, n4⟩ := hn
  have S1 := hide (fun w R => w_szLeafS ca s.C.n kc s.C.T m w n1.1 n1.2 hm hm0 R)
  have S2 := hide (fun m hm hm0 w R => w_szLeafS ra s.R.n kr s.R.T m w n2.1 n2.2 hm hm0 R)
  have S3 := hide (fun m hm hm0 w R => w_szLeafSS ha s.h kh s.H m w n3 n4 hm hm0 R)
  have z1 : Hid (szc s.C = s.C.n + totF s.C.T s.C.n) := rfl
  have z2 : Hid (szc s.R = s.R.n + totF s.R.T s.R.n) := rfl
  have fin : Hid (LowCf s.C → LowCf s.R → s.h ≤ 1048576 → (∀ i, i < s.h → LowCf (s.H i)) → totX s.H s.h ≤ 1048576 → LowSt s) := fun a b c d e => ⟨a, b, c, d, e⟩
  have f1 : Hid (∀ r : Int, 0 ≤ r → r + s.C.n + totF s.C.T s.C.n ≤ m → LowF s.C.n s.C.T → LowCf s.C) := fun r h0 h1 h2 => ⟨by have := z1.out; omega, h2⟩
  have f2 : Hid (∀ r m' : Int, m' ≤ 1048576 → 0 ≤ r → r + s.R.n + totF s.R.T s.R.n ≤ m' → LowF s.R.n s.R.T → LowCf s.R) := fun r m' h h0 h1 h2 => ⟨by have := z2.out; omega, h2⟩
  clear n1 n2 n3 n4
  unfold stV
  have M0 := Mut.new w #[.slice ca s.C.n kc, .slice ra s.R.n kr, .slice ha s.h kh, .int .i64 s.l] 25
  have d1 : Below w.heap.size w (w.alloc (.cells #[.slice ca s.C.n kc, .slice ra s.R.n kr, .slice ha s.h kh, .int .i64 s.l] 25)) := below_box (Below.refl _ _)
  go_enter Tryz.func5, Tryz.ntmps5
  go_wp2_with fail
  generalize w.alloc (.cells #[.slice ca s.C.n kc, .slice ra s.R.n kr, .slice ha s.h kh, .int .i64 s.l] 25) = w1 at *
  refine (S1.out _ (R1.below d1)).mono ?_
  rintro e w2 ⟨r1, rfl, hr1, bb⟩
  replace M0 := M0.below bb
  have d2 := d1.trans (bb.mono d1.size)
  clear bb d1 S1
  rcases hr1 with rfl | ⟨r1a, r1b, l1⟩
  · go_wp2_with fail
    go_ret
    exact ⟨-1, rfl, Or.inl rfl, d2⟩
  have hn0 : ¬ (r1 < 0) := by omega
  have k1 := M0.2.1 1 _ rfl
  have g1 := hide (f1.out r1 r1a r1b l1)
  have hr1m : r1 ≤ m := by omega
  clear l1 f1 r1b
  go_wp2_with fail
  refine (S2.out r1 (by omega) r1a _ (R2.below d2)).mono ?_
  rintro e w3 ⟨r2, rfl, hr2, bb⟩
  replace M0 := M0.below bb
  have d3 := d2.trans (bb.mono d2.size)
  clear bb d2 S2 k1 hn0
  rcases hr2 with rfl | ⟨r2a, r2b, l2⟩
  · go_wp2_with fail
    go_ret
    exact ⟨-1, rfl, Or.inl rfl, d3⟩
  have hn0 : ¬ (r2 < 0) := by omega
  have k2 := M0.2.1 2 _ rfl
  have g2 := hide (f2.out r2 r1 (by omega) r2a r2b l2)
  have hr2m : r2 ≤ m := by omega
  clear l2 f2 r2b
  go_wp2_with fail
  refine (S3.out r2 (by omega) r2a _ (R3.below d3)).mono ?_
  rintro e w4 ⟨r3, rfl, hr3, bb⟩
  have d4 := d3.trans (bb.mono d3.size)
  clear bb d3 S3 k2 hn0 M0
  rcases hr3 with rfl | ⟨r3a, r3b, l3⟩
  · go_wp2_with fail
    go_ret
    exact ⟨-1, rfl, Or.inl rfl, d4⟩
  have hn0 : ¬ (r3 < 0) := by omega
  have g3 := hide (fin.out g1.out g2.out (by omega) l3 (by omega))
  have hr3m : r3 ≤ m := by omega
  clear l3 r3b g1 g2 fin
  go_wp2_with fail
  go_ret
  exact ⟨_, rfl, Or.inr ⟨r3a, hr3m, g3.out⟩, d4⟩
set_option maxRecDepth 100000 in
set_option maxHeartbeats 3200000 in
theorem w_toLeafSS (a : Option Addr) (h c : Nat) (H : Nat → Cf) (w : World) (hn : h ≤ 1048576) (hl : ∀ i, i < h → LowCf (H i)) (hR : RowX false a h H w) :
    Calls Tryz.prog 32 #[.slice a h c] w fun e w' => e = .returned (.slice (some ⟨w.heap.size, 0, none⟩) h h) ∧ AnsX (some ⟨w.heap.size, 0, none⟩) h H w.heap.size w'.heap.size w' ∧ Below w.heap.size w w' := by
  have hinfo : (Tryz.prog.info? 31).map (fun i => (i.zero, i.size, i.bytes)) = some (some (.slice none 0 0), 1, 24) := by kernel_rfl
  obtain ⟨i, hi, hzz⟩ := Option.map_eq_some_iff.1 hinfo
  simp only [Prod.mk.injEq] at hzz
  obtain ⟨hz, hsz, hby⟩ := hzz
  have hmk := fun w : World => run_make (P := Tryz.prog) w 32 31 i _ Tryz.underlying32 hi hz .i64 .i64 (h : Int) (h : Int) (by omega) (by omega) (by rw [hby]; omega) (by omega)
  rw [hsz] at hmk
  clear hi hz hsz hby hinfo
  go_enter Tryz.func32, Tryz.ntmps32
  go_wp2_with fail
  clear hmk
  go_loopw [4] (fun y wr => ∃ k : Nat, y = .int .i64 k ∧ k ≤ h ∧ (∃ B E, PreX w.heap.size k H B E wr) ∧ FreeC w.heap.size h wr ∧ Below w.heap.size w wr) (fun y _ => h - (intOf y).toNat)
  case atStart => exact ⟨0, rfl, Nat.zero_le _, ⟨fun _ => 0, fun _ => 0, fun i hi => absurd hi (by omega), fun i j _ hj => absurd hj (by omega), fun i hi => absurd hi (by omega)⟩, by
    have q := FreeC.new w (madeCells #[.slice none 0 0] h) 31
    simpa [madeCells] using q, below_box (Below.refl _ _)⟩
  case round =>
    obtain ⟨k, rfl, hk, ⟨B, E, RT⟩, FC, hb⟩ := hrel
    by_cases hlt : k < h
    · obtain ⟨b, off, a0, c0, rfl, hbw, u0, ht⟩ := hR k hlt
      replace u0 := (hb.cell (p := ⟨b, off + k, none⟩) hbw).trans u0
      have hlt' : (k : Int) < (h : Int) := by omega
      have l1 := hl k hlt
      have TT := hide (fun w hT => w_toLeafS a0 (H k).n c0 (H k).T w l1.n l1.2 hT)
      have hT := hide (ht.below hb)
      have hRT := hide RT
      have hFC := hide FC
      clear l1 ht hR hl RT FC
      go_wp2_with fail
      refine (TT.out _ hT.out).mono ?_
      rintro e w3 ⟨rfl, ⟨X, O1⟩, F1, b3⟩
      have lt0 := hFC.out.1
      have FC := hFC.out.below b3
      have RT := hRT.out.below lt0 b3
      have d3 := hb.trans (b3.mono hb.size)
      obtain ⟨⟨p0, e0⟩, g0⟩ := FC.2 k hlt
      have hN := hide (RT.push (c0 := (H k).n) (fun i hi => (hRT.out.1 i hi).2.2) lt0 (b3.size) (Nat.le_refl _) ⟨p0, e0⟩ (O1.ans F1 F1.1))
      have hF := hide (FC.set k (.slice (some ⟨wr.heap.size, 0, none⟩) (H k).n (H k).n))
      clear b3 hRT hFC RT FC hb O1 F1 TT hT
      go_wp2_with fail
      obtain ⟨B', E', hB'⟩ := hN.out
      exact ⟨⟨k + 1, by go_num, by omega, ⟨B', E', hB'⟩, hF.out, d3.setCell (Nat.le_refl _) _⟩, by simp [intOf]; omega⟩
    · have hlt' : ¬ (k : Int) < (h : Int) := by omega
      obtain rfl : k = h := by omega
      clear hR hl
      have hA := hide (RT.ans FC.1)
      go_wp2_with fail
      go_ret
      exact ⟨rfl, hA.out, hb⟩
end Go.Proofs.YtnficndeblkjhaaGreatDoor

namespace Go.Proofs.YtnficndeblkjhaaGreatDoor
open Go.RowKit

/-- A list of leaves: where it lies, its room, its leaves. -/
structure Xl where
  a : Option Addr
  k : Nat
  c : Cf
def xlc (e : Xl) : Value := .slice e.a e.c.n e.k
/-- The list at a place. -/
def TX (L : List Xl) (i : Nat) : Cf := (L.getD i ⟨none, 0, cf0⟩).c
theorem TX_eq {L : List Xl} {i : Nat} (h : i < L.length) : TX L i = (L[i]).c := by
  unfold TX
  rw [List.getD_eq_getElem?_getD, List.getElem?_eq_getElem h]
  rfl
theorem leafST : AggT Tryz.prog 32 31 (.slice none 0 0) 1 24 := ⟨Tryz.underlying32, by kernel_rfl, rfl, by decide⟩
/-- Lists of leaves of one's own: the blocks of list i lie from B i on and ahead of E i. -/
def LsX (base : Nat) (v : Value) (L : List Xl) (B E : Nat → Nat) (w : World) : Prop := OwnW 31 1 base v L.length (L.map xlc) w ∧ (∀ i, i < L.length → base ≤ B i ∧ B i ≤ E i ∧ E i ≤ w.heap.size) ∧ (∀ i j, i < j → j < L.length → E i ≤ B j) ∧ (∀ i (hi : i < L.length), AnsF (L[i]).a (L[i]).c.n (L[i]).c.T (fun k => B i ≤ k ∧ k < E i) w) ∧ ∀ g, v.ownBlock = some g → ∀ j, j < L.length → g < B j ∨ E j ≤ g
theorem LsX.nil (base : Nat) (w : World) : LsX base (.slice none 0 0) [] (fun _ => 0) (fun _ => 0) w := ⟨ownW_nil _ _ _ _, fun i hi => absurd hi (Nat.not_lt_zero _), fun i j _ hj => absurd hj (Nat.not_lt_zero _), fun i hi => absurd hi (Nat.not_lt_zero _), fun g h => by simp [Value.ownBlock] at h⟩
theorem LsX.below {base : Nat} {v : Value} {L : List Xl} {B E : Nat → Nat} {w w' : World} (h : LsX base v L B E w) (b : Below w.heap.size w w') : LsX base v L B E w' := by
  obtain ⟨h1, h2, h3, h4, h5⟩ := h
  exact ⟨ownW_below h1 b, fun i hi => ⟨(h2 i hi).1, (h2 i hi).2.1, Nat.le_trans (h2 i hi).2.2 b.size⟩, h3, fun i hi => (h4 i hi).below b, h5⟩
theorem LsX.onlyP {P : Nat → Prop} {base : Nat} {v : Value} {L : List Xl} {B E : Nat → Nat} {w w' : World} (h : LsX base v L B E w) (b : OnlyP P w w') (hP : ∀ k, base ≤ k → ¬ P k) : LsX base v L B E w' := by
  obtain ⟨h1, h2, h3, h4, h5⟩ := h
  exact ⟨ownW_onlyP h1 b (fun k hk => hP k (ownW_lt h1 hk).1), fun i hi => ⟨(h2 i hi).1, (h2 i hi).2.1, Nat.le_trans (h2 i hi).2.2 b.2.2.2.1⟩, h3, fun i hi => (h4 i hi).onlyP b (fun k hk => hP k (by have := (h2 i hi).1; omega)), h5⟩
theorem LsX.push {base : Nat} {v v' : Value} {L : List Xl} {B E : Nat → Nat} {w w' : World} (h : LsX base v L B E w) {e : Xl} {lo top : Nat} (hbl : base ≤ lo) (hlo : ∀ i, i < L.length → E i ≤ lo) (hlh : lo ≤ top) (htop : top ≤ w.heap.size) (hA : AnsF e.a e.c.n e.c.T (fun k => lo ≤ k ∧ k < top) w) (hv : ∀ g, v.ownBlock = some g → g < lo)
    (own' : OwnW 31 1 base v' (L.length + 1) (L.map xlc ++ [xlc e]) w') (g : w.grownBy w' v.ownBlock) (o : v'.ownBlock = v.ownBlock ∨ v'.ownBlock = some w.heap.size) :
    ∃ B' E', LsX base v' (L ++ [e]) B' E' w' := by
  obtain ⟨h1, h2, h3, h4, h5⟩ := h
  have on := OnlyP.of_grown (P := fun k => v.ownBlock = some k) g (fun _ hk => hk)
  refine ⟨fun i => if i < L.length then B i else lo, fun i => if i < L.length then E i else top, ?_, fun i hi => ?_, fun i j hij hj => ?_, fun i hi => ?_, fun b hb j hj => ?_⟩
  · rw [List.length_append, List.map_append]
    exact own'
  · rw [List.length_append] at hi
    by_cases q : i < L.length
    · simp only [if_pos q]
      exact ⟨(h2 i q).1, (h2 i q).2.1, Nat.le_trans (h2 i q).2.2 g.size⟩
    · simp only [if_neg q]
      exact ⟨hbl, hlh, Nat.le_trans htop g.size⟩
  · rw [List.length_append] at hj
    have q : i < L.length := by simp at hj; omega
    simp only [if_pos q]
    by_cases q2 : j < L.length
    · rw [if_pos q2]; exact h3 i j hij q2
    · rw [if_neg q2]; exact hlo i q
  · rw [List.length_append] at hi
    by_cases q : i < L.length
    · rw [List.getElem_append_left q]
      simp only [if_pos q]
      refine (h4 i q).onlyP on (fun k hk hk2 => ?_)
      have := h5 k hk2 i q
      omega
    · have e0 : i = L.length := by simp at hi; omega
      subst e0
      rw [List.getElem_append_right (Nat.le_refl _)]
      simp only [if_neg q, Nat.sub_self, List.getElem_cons_zero]
      exact hA.onlyP on (fun k hk hk2 => by have := hv k hk2; omega)
  · rw [List.length_append] at hj
    by_cases q : j < L.length
    · simp only [if_pos q]
      rcases o with o | o
      · rw [o] at hb
        exact h5 b hb j q
      · rw [o] at hb
        simp only [Option.some.injEq] at hb
        subst hb
        exact .inr (h2 j q).2.2
    · simp only [if_neg q]
      rcases o with o | o
      · rw [o] at hb
        exact .inl (hv b hb)
      · rw [o] at hb
        simp only [Option.some.injEq] at hb
        subst hb
        exact .inr htop
/-- As lists of leaves of one's own. -/
theorem LsX.ans {base : Nat} {v : Value} {L : List Xl} {B E : Nat → Nat} {w : World} (h : LsX base v L B E w) (hb : base ≤ w.heap.size) : ∃ a cap, v = .slice a L.length cap ∧ L.length ≤ cap ∧ AnsX a L.length (TX L) base w.heap.size w := by
  obtain ⟨h1, h2, h3, h4, h5⟩ := h
  obtain ⟨a, cap, hv, hr, hc⟩ := ownW_row h1
  rcases hc with ⟨rfl, rfl, hn⟩ | ⟨g, rfl, hg, hgl, hcap, hf⟩
  · exact ⟨_, _, hv, by omega, Nat.le_refl _, hb, .inl hn⟩
  · refine ⟨_, _, hv, hcap, Nat.le_refl _, hb, .inr ⟨B, E, g, h2, h3, rfl, hgl, fun j hj => h5 g (by rw [hv]; rfl) j hj, hg, hgl, fun i hi => ?_⟩⟩
    rw [TX_eq hi]
    obtain ⟨b, off, ha, hb2, c0⟩ := hr i (xlc (L[i])) (by rw [List.getElem?_map, List.getElem?_eq_getElem hi]; rfl)
    simp only [Option.some.injEq, Addr.mk.injEq, and_true] at ha
    obtain ⟨rfl, rfl⟩ := ha
    rw [Nat.zero_add] at c0
    exact ⟨_, _, c0, h4 i hi⟩
end Go.Proofs.YtnficndeblkjhaaGreatDoor
