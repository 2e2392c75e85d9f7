/- The cursor by which the specification draws its inputs: each step answers a number of its range, turns the cursor alone, and reads the bytes alone. -/
import Derived.Test.YtjfalfjadleegaaKit
namespace Go.Proofs.Ytjfalfjadleegaa
open Go.RowKit

/-- The cursor lies in block c, over the bytes v, at most n steps on. -/
def Cur (c : Nat) (v : Value) (n : Nat) (w : World) : Prop := ∃ p s : Int, 0 ≤ p ∧ p ≤ n ∧ c < w.heap.size ∧
  w.cell? ⟨c, 0, none⟩ = some v ∧ w.cell? ⟨c, 1, none⟩ = some (.int .i64 p) ∧ w.cell? ⟨c, 2, none⟩ = some (.int .u64 s) ∧ 0 ≤ s ∧
  w.frozen? ⟨c, 0, none⟩ = false ∧ w.frozen? ⟨c, 1, none⟩ = false ∧ w.frozen? ⟨c, 2, none⟩ = false

/-- The slice v has len bytes, in a block below B. -/
def BytesAt (B : Nat) (w : World) (v : Value) (len : Nat) : Prop := ∃ a cap, v = .slice a len cap ∧ len ≤ maxLen ∧
  ∀ j, j < len → ∃ (b off : Nat) (z : Int), a = some ⟨b, off, none⟩ ∧ b < B ∧ b < w.heap.size ∧ w.cell? ⟨b, off + j, none⟩ = some (.int .u8 z) ∧ 0 ≤ z ∧ z ≤ 255

theorem BytesAt.only {B c : Nat} {w w' : World} {v : Value} {len : Nat} (h : BytesAt B w v len) (k : Only c w w') (hc : B ≤ c) : BytesAt B w' v len := by
  obtain ⟨a, cap, hv, hl, hj⟩ := h
  refine ⟨a, cap, hv, hl, fun j h => ?_⟩
  obtain ⟨b, off, z, ha, hb, hw, hz, h0, h1⟩ := hj j h
  exact ⟨b, off, z, ha, hb, Nat.lt_of_lt_of_le hw k.2.2.2.1, (k.cell hw (by omega)).trans hz, h0, h1⟩

/-- Bytes that came in, as the walks want them. -/
theorem bytes_of {W : World} {x : Addr} {len cap : Nat} {zs : List Int} (_h : 0 ≤ len) (hl : len ≤ cap) (hm : cap ≤ maxLen) (hz : zs.length = cap)
    (hcell : ∀ i, i < zs.length → W.cell? (x.add i) = some (.int .u8 (zs.getD i 0))) (hwz : ∀ n ∈ zs, (Lit.int .u8 n).wf = true) : BytesAt W.heap.size W (.slice (some x) len cap) len := by
  refine ⟨some x, cap, rfl, by omega, fun j hj => ?_⟩
  obtain ⟨b, off, spot⟩ := x
  have hc := hcell j (by omega)
  have hspot : spot = none := by
    have h0 := hcell 0 (by omega)
    simpa [Addr.add] using World.cell?_spot h0
  subst hspot
  rw [Addr.add_mid] at hc
  have hb := World.block_lt_of_cell? W _ hc
  have hw := hwz (zs.getD j 0) (by rw [List.getD_eq_getElem?_getD, List.getElem?_eq_getElem (by omega)]; exact List.getElem_mem _)
  have hr : 0 ≤ zs.getD j 0 ∧ zs.getD j 0 ≤ 255 := by simpa [Lit.wf, IntKind.min, IntKind.max, IntKind.signed, IntKind.bits] using hw
  exact ⟨b, off, zs.getD j 0, rfl, hb, hb, hc, hr.1, hr.2⟩

theorem u64_nonneg (x : Int) : 0 ≤ IntKind.u64.wrap x := by
  have h : IntKind.u64.wrap x = x % 18446744073709551616 := by simp [IntKind.wrap, IntKind.signed, IntKind.bits]
  rw [h]; omega

theorem and255 (x : Int) : 0 ≤ wrap64 (bits .and .u64 x 255) ∧ wrap64 (bits .and .u64 x 255) ≤ 255 := by
  have h : (BitVec.ofInt 64 x &&& BitVec.ofInt 64 255).toNat ≤ 255 := by
    rw [BitVec.toNat_and]
    exact Nat.le_trans Nat.and_le_right (by decide)
  have e : bits .and .u64 x 255 = IntKind.u64.wrap ((BitVec.ofInt 64 x &&& BitVec.ofInt 64 255).toNat : Int) := rfl
  have e2 : ∀ n : Int, IntKind.u64.wrap n = n % 18446744073709551616 := fun n => by simp [IntKind.wrap, IntKind.signed, IntKind.bits]
  rw [e, e2, IntWalk.wrap64_in _ (by omega)]
  omega

theorem cur_up {c n m : Nat} {v : Value} {w : World} (h : Cur c v n w) (hm : n ≤ m) : Cur c v m w := by
  obtain ⟨p, s, h0, h1, h⟩ := h
  exact ⟨p, s, h0, by omega, h⟩
theorem cur_only {c d n : Nat} {v : Value} {w w' : World} (h : Cur c v n w) (k : Only d w w') (hd : c ≠ d) : Cur c v n w' := by
  obtain ⟨p, s, h0, h1, hc, c0, c1, c2, hs, f0, f1, f2⟩ := h
  exact ⟨p, s, h0, h1, Nat.lt_of_lt_of_le hc k.2.2.2.1, (k.cell hc hd).trans c0, (k.cell hc hd).trans c1, (k.cell hc hd).trans c2, hs, (k.frozen hc hd).trans f0, (k.frozen hc hd).trans f1, (k.frozen hc hd).trans f2⟩
theorem cur_below {c n : Nat} {v : Value} {w w' : World} (h : Cur c v n w) (k : Below w.heap.size w w') : Cur c v n w' := by
  obtain ⟨p, s, h0, h1, hc, h⟩ := h
  exact cur_only ⟨p, s, h0, h1, hc, h⟩ (Only.of_below (c := w.heap.size) k) (by omega)

/-- The cursor behind a step. -/
theorem cur_next {c n : Nat} {v : Value} {w : World} {q s s' : Int} (h0 : 0 ≤ q) (h1 : q ≤ n) (hcw : c < w.heap.size)
    (c0 : w.cell? ⟨c, 0, none⟩ = some v) (c1 : w.cell? ⟨c, 1, none⟩ = some (.int .i64 q)) (c2 : w.cell? ⟨c, 2, none⟩ = some (.int .u64 s)) (hs : 0 ≤ s')
    (f0 : w.frozen? ⟨c, 0, none⟩ = false) (f1 : w.frozen? ⟨c, 1, none⟩ = false) (f2 : w.frozen? ⟨c, 2, none⟩ = false) (m m' : Nat) :
    Cur c v (n + 1) ((((w.drewN m).setCell ⟨c, 1, none⟩ (.int .i64 (q + 1))).setCell ⟨c, 2, none⟩ (.int .u64 s')).drewN m') := by
  refine ⟨q + 1, s', by omega, by omega, ?_, ?_, ?_, ?_, hs, ?_, ?_, ?_⟩
  all_goals simp [go_sem, c0, c1, c2, f0, f1, f2, hcw]

set_option maxRecDepth 100000 in
set_option maxHeartbeats 1600000 in
theorem d_next (c : Nat) (v : Value) (len n : Nat) (w : World) (hn : n ≤ 1000000) (hcur : Cur c v n w) (hby : BytesAt c w v len) :
    Calls Try.prog 19 #[.pointer (some ⟨c, 0, none⟩)] w fun e w' =>
      ∃ r : Int, 0 ≤ r ∧ r ≤ 255 ∧ e = .returned (.int .i64 r) ∧ Cur c v (n + 1) w' ∧ Only c w w' := by
  obtain ⟨p, s, hp0, hp1, hcw, c0, c1, c2, hs0, f0, f1, f2⟩ := hcur
  obtain ⟨a, cap, rfl, hl, hj⟩ := hby
  unfold maxLen at hl
  by_cases hlt : p < (len : Int)
  · obtain ⟨q, rfl⟩ := Int.eq_ofNat_of_zero_le hp0
    obtain ⟨b, off, z, rfl, hb, hw, hz, hz0, hz1⟩ := hj q (by omega)
    clear hj
    go_enter Try.func19, Try.ntmps19
    go_wp2_with fail
    go_quiet (fail)
    go_wp2_with fail
    go_quiet (fail)
    go_wp2_with fail
    have hs' : 0 ≤ IntKind.u64.wrap (IntKind.u64.wrap (IntKind.u64.wrap (s * 6364136223846793005) + z) + 1442695040888963407) := u64_nonneg _
    generalize IntKind.u64.wrap (IntKind.u64.wrap (IntKind.u64.wrap (s * 6364136223846793005) + z) + 1442695040888963407) = s' at hs' ⊢
    have hle : ((q : Int) + 1 ≤ (len : Int)) := by omega
    go_quiet (fail)
    go_wp2_with fail
    go_ret
    refine ⟨z, hz0, hz1, rfl, cur_next (q := (q : Int)) (by omega) (by omega) hcw c0 c1 c2 hs' f0 f1 f2 _ _, ?_⟩
    exact (((Only.refl c w).drewN _).setCell _ _).setCell _ _ |>.drewN _
  · clear hj
    have hd : decide (p < (len : Int)) = false := by simpa using hlt
    go_enter Try.func19, Try.ntmps19
    go_wp2_with fail
    go_quiet (fail)
    go_wp2_with fail
    have hs' : 0 ≤ IntKind.u64.wrap (IntKind.u64.wrap (IntKind.u64.wrap (s * 6364136223846793005)) + 1442695040888963407) := u64_nonneg _
    generalize IntKind.u64.wrap (IntKind.u64.wrap (IntKind.u64.wrap (s * 6364136223846793005)) + 1442695040888963407) = s' at hs' ⊢
    have hle : decide (p + 1 ≤ (len : Int)) = false := by simp; omega
    go_quiet (fail)
    go_wp2_with fail
    go_ret
    have hr := and255 (s' / 1099511627776)
    refine ⟨_, hr.1, hr.2, rfl, cur_next (q := p) (by omega) (by omega) hcw c0 c1 c2 hs' f0 f1 f2 _ _, ?_⟩
    exact (((Only.refl c w).drewN _).setCell _ _).setCell _ _ |>.drewN _

set_option maxRecDepth 100000 in
set_option maxHeartbeats 800000 in
theorem d_pick (c : Nat) (v : Value) (len n : Nat) (k : Int) (w : World) (hn : n ≤ 900000) (hk : k ≤ 1000000000) (hcur : Cur c v n w) (hby : BytesAt c w v len) :
    Calls Try.prog 8 #[.pointer (some ⟨c, 0, none⟩), .int .i64 k] w fun e w' =>
      ∃ r : Int, 0 ≤ r ∧ (r < k ∨ r = 0) ∧ e = .returned (.int .i64 r) ∧ Cur c v (n + 2) w' ∧ Only c w w' := by
  by_cases h1 : k ≤ 1
  · go_enter Try.func8, Try.ntmps8
    go_wp2_with fail
    go_ret
    exact ⟨0, by omega, .inr rfl, rfl, cur_up hcur (by omega), Only.refl _ _⟩
  · by_cases h2 : 200 < k
    · go_enter Try.func8, Try.ntmps8
      go_wp2_with fail
      refine (d_next c v len n _ (by omega) hcur hby).mono ?_
      rintro e w1 ⟨r, hr0, hr1, rfl, hc1, ho1⟩
      go_wp2_with fail
      refine (d_next c v len (n + 1) _ (by omega) hc1 (hby.only ho1 (Nat.le_refl _))).mono ?_
      rintro e w2 ⟨r2, hr2, hr3, rfl, hc2, ho2⟩
      have hm0 : 0 ≤ (r * 256 + r2) % k := Int.emod_nonneg _ (by omega)
      have hm1 : (r * 256 + r2) % k < k := Int.emod_lt_of_pos _ (by omega)
      go_wp2_with fail
      go_ret
      exact ⟨_, hm0, .inl hm1, rfl, hc2, ho1.trans ho2⟩
    · go_enter Try.func8, Try.ntmps8
      go_wp2_with fail
      refine (d_next c v len n _ (by omega) hcur hby).mono ?_
      rintro e w1 ⟨r, hr0, hr1, rfl, hc1, ho1⟩
      have hm0 : 0 ≤ r % k := Int.emod_nonneg _ (by omega)
      have hm1 : r % k < k := Int.emod_lt_of_pos _ (by omega)
      go_wp2_with fail
      go_ret
      exact ⟨_, hm0, .inl hm1, rfl, cur_up hc1 (by omega), ho1⟩

/-- The slice has m numbers, each with P, in block L. -/
def NumsAt (L off m : Nat) (P : Int → Prop) (w : World) : Prop := L < w.heap.size ∧ ∀ j, j < m → ∃ z, w.cell? ⟨L, off + j, none⟩ = some (.int .i64 z) ∧ P z

set_option maxRecDepth 100000 in
set_option maxHeartbeats 800000 in
theorem d_among (c : Nat) (v : Value) (len n L off m cap : Nat) (P : Int → Prop) (w : World) (hn : n ≤ 900000) (hm : 1 ≤ m) (hm' : m ≤ 1000) (hcur : Cur c v n w) (hby : BytesAt c w v len) (hL : NumsAt L off m P w) (hLc : L ≠ c) :
    Calls Try.prog 10 #[.pointer (some ⟨c, 0, none⟩), .slice (some ⟨L, off, none⟩) m cap] w fun e w' =>
      ∃ r : Int, P r ∧ e = .returned (.int .i64 r) ∧ Cur c v (n + 2) w' ∧ Only c w w' := by
  go_enter Try.func10, Try.ntmps10
  go_wp2_with fail
  refine (d_pick c v len n (m : Int) _ hn (by omega) hcur hby).mono ?_
  rintro e w1 ⟨r, hr0, hr1, rfl, hc1, ho1⟩
  obtain ⟨q, rfl⟩ := Int.eq_ofNat_of_zero_le hr0
  obtain ⟨z, hz, hP⟩ := hL.2 q (by omega)
  have hz' := (ho1.cell hL.1 hLc).trans hz
  have hlt : (q : Int) < (m : Int) := by omega
  clear hz hL hr1 hcur hby
  go_wp2_with fail
  go_ret
  exact ⟨z, hP, rfl, hc1, ho1⟩

end Go.Proofs.Ytjfalfjadleegaa
