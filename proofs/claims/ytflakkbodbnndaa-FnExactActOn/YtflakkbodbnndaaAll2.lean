/- Blocks whose first cells are known and may be written. -/
import Derived.Test.YtflakkbodbnndaaAll1
/- Rows of whole numbers in memory, and what the laws do with them: handed over, compared, marked. -/
namespace Go.Proofs.Ytflakkbodbnndaa
open Go.RowKit

/-- n whole numbers at a, told by f. -/
def RowInt (a : Option Addr) (n : Nat) (f : Nat → Int) (w : World) : Prop := ∀ i, i < n → ∃ b off, a = some ⟨b, off, none⟩ ∧ b < w.heap.size ∧ w.cell? ⟨b, off + i, none⟩ = some (.int .i64 (f i))
theorem RowInt.below {a : Option Addr} {n : Nat} {f : Nat → Int} {w w' : World} (h : RowInt a n f w) (k : Below w.heap.size w w') : RowInt a n f w' := by
  intro i hi
  obtain ⟨b, off, ha, hb, h0⟩ := h i hi
  obtain ⟨hc, _⟩ := bcell k
  exact ⟨b, off, ha, Nat.lt_of_lt_of_le hb k.size, (hc _ _ hb).trans h0⟩
theorem RowInt.congr {a : Option Addr} {n : Nat} {f g : Nat → Int} {w : World} (h : RowInt a n f w) (e : ∀ i, i < n → f i = g i) : RowInt a n g w := by
  intro i hi
  rw [← e i hi]
  exact h i hi

/-- A row of n whole numbers in block c, the first k told; it may be written. -/
def OutInt (c n k : Nat) (f : Nat → Int) (w : World) : Prop := c < w.heap.size ∧ ∀ i, i < n → (∃ x : Int, w.cell? ⟨c, i, none⟩ = some (.int .i64 x) ∧ (i < k → x = f i)) ∧ w.frozen? ⟨c, i, none⟩ = false
theorem OutInt.below {c n k : Nat} {f : Nat → Int} {w w' : World} (h : OutInt c n k f w) (hb : Below w.heap.size w w') : OutInt c n k f w' := by
  obtain ⟨hc, hf⟩ := bcell hb
  refine ⟨Nat.lt_of_lt_of_le h.1 hb.size, fun i hi => ?_⟩
  obtain ⟨⟨x, h0, hk⟩, g0⟩ := h.2 i hi
  exact ⟨⟨x, (hc _ _ h.1).trans h0, hk⟩, (hf _ _ h.1).trans g0⟩
theorem OutInt.only {c n k d : Nat} {f : Nat → Int} {w w' : World} (h : OutInt c n k f w) (hb : Only d w w') (hn : c ≠ d) : OutInt c n k f w' := by
  refine ⟨Nat.lt_of_lt_of_le h.1 hb.2.2.2.1, fun i hi => ?_⟩
  obtain ⟨⟨x, h0, hk⟩, g0⟩ := h.2 i hi
  exact ⟨⟨x, (hb.cell h.1 hn).trans h0, hk⟩, (hb.frozen h.1 hn).trans g0⟩
theorem OutInt.row {c n : Nat} {f : Nat → Int} {w : World} (h : OutInt c n n f w) : RowInt (some ⟨c, 0, none⟩) n f w := by
  intro i hi
  obtain ⟨⟨x, h0, hk⟩, g0⟩ := h.2 i hi
  obtain rfl := hk hi
  exact ⟨c, 0, rfl, h.1, by rw [Nat.zero_add]; exact h0⟩
theorem OutInt.set {c n k : Nat} {f : Nat → Int} {w : World} (h : OutInt c n k f w) (hk : k < n) : OutInt c n (k + 1) f (w.setCell ⟨c, k, none⟩ (.int .i64 (f k))) := by
  refine ⟨by have := h.1; simpa using this, fun i hi => ?_⟩
  obtain ⟨⟨x, h0, hx⟩, g0⟩ := h.2 i hi
  by_cases e : i = k
  · subst e
    refine ⟨⟨f i, ?_, fun _ => rfl⟩, ?_⟩ <;> simp [go_sem, h0, g0]
  · refine ⟨⟨x, ?_, fun hlt => hx (by omega)⟩, ?_⟩
    · rw [World.cell?_setCell_other _ _ _ _ (by simp <;> omega)]; exact h0
    · simpa [go_sem] using g0
theorem OutInt.forget {c n k : Nat} {f : Nat → Int} {w : World} (h : OutInt c n k f w) (g : Nat → Int) : OutInt c n 0 g w := by
  refine ⟨h.1, fun i hi => ?_⟩
  obtain ⟨⟨x, h0, hk⟩, z0⟩ := h.2 i hi
  exact ⟨⟨x, h0, fun h => absurd h (Nat.not_lt_zero _)⟩, z0⟩
theorem OutInt.start (w : World) (n : Nat) (f : Nat → Int) (t : TypeId) : OutInt w.heap.size n 0 f (w.alloc (.cells (madeCells #[.int .i64 0] n) t)) := by
  refine ⟨by simp, fun i hi => ?_⟩
  have e : (madeCells #[.int .i64 0] n)[i]? = some (.int .i64 0) := by
    simp only [madeCells, Array.getElem?_map, Array.getElem?_range, hi, if_true, Option.map_some]
    simp only [List.size_toArray, List.length_cons, List.length_nil, Nat.zero_add, Nat.mod_one]
    rfl
  refine ⟨⟨0, ?_, fun h => absurd h (Nat.not_lt_zero _)⟩, ?_⟩ <;> simp [go_sem, e]

set_option maxRecDepth 100000 in
set_option maxHeartbeats 800000 in
theorem w_toIntS (a : Option Addr) (len cap : Nat) (f : Nat → Int) (w : World) (hl : len ≤ 1048576) (hR : RowInt a len f w) :
    Calls Try.prog 51 #[.slice a len cap] w fun e w' => e = .returned (.slice (some ⟨w.heap.size, 0, none⟩) len len) ∧ Below w.heap.size w w' ∧ OutInt w.heap.size len len f w' := by
  have hinfo : (Try.prog.info? 3).map (fun i => (i.zero, i.size, i.bytes)) = some (some (.int .i64 0), 1, 8) := by kernel_rfl
  obtain ⟨i, hi, hzz⟩ := Option.map_eq_some_iff.1 hinfo
  simp only [Prod.mk.injEq] at hzz
  obtain ⟨hz, hsz, hby⟩ := hzz
  have hmk := fun w : World => run_make (P := Try.prog) w 26 3 i _ Try.underlying26 hi hz .i64 .i64 (len : Int) (len : Int) (by omega) (by omega) (by rw [hby]; omega) (by omega)
  rw [hsz] at hmk
  clear hi hz hsz hby hinfo
  simp only [Int.toNat_natCast, Nat.mul_one, Value.cells] at hmk
  go_enter Try.func51, Try.ntmps51
  go_wp2_with fail
  go_loopw [4] (fun i wr => ∃ k : Nat, k ≤ len ∧ i = .int .i64 k ∧ Below w.heap.size w wr ∧ OutInt w.heap.size len k f wr) (fun i _ => len - (intOf i).toNat)
  case atStart => exact ⟨0, Nat.zero_le _, rfl, below_box (Below.refl _ _), OutInt.start w len f _⟩
  case round =>
    obtain ⟨k, hk, rfl, hb, ho⟩ := hrel
    by_cases hlt : k < len
    · obtain ⟨b, off, rfl, hbw, h0⟩ := hR k hlt
      have h0 := (hb.cell (p := ⟨b, off + k, none⟩) hbw).trans h0
      have hlt' : (k : Int) < (len : Int) := by omega
      clear hR hmk
      obtain ⟨⟨y0, i0, _⟩, g0⟩ := ho.2 k hlt
      go_wp2_with fail
      exact ⟨⟨k + 1, by omega, by go_num, (hb.setCell (Nat.le_refl _) _), ho.set hlt⟩, by simp [intOf]; omega⟩
    · have hk' : k = len := by omega
      subst hk'
      go_wp2_with fail
      go_ret
      exact ⟨rfl, hb, ho⟩

set_option maxHeartbeats 400000 in
theorem w_szIntS (a : Option Addr) (len cap : Nat) (m : Int) (w : World) (hl : len ≤ maxLen) (hm : m ≤ 1048576) (hm0 : 0 ≤ m) :
    Calls Try.prog 45 #[.slice a len cap, .int .i64 m] w fun e w' => e = .returned (.int .i64 (if (len : Int) ≤ m then m - (len : Int) else -1)) ∧ w' = w := by
  unfold maxLen at hl
  by_cases h : (len : Int) ≤ m
  · rw [if_pos h]
    have h1 : ¬ (m - (len : Int) < 0) := by omega
    go_enter Try.func45, Try.ntmps45
    go_wp2_with fail
    go_ret
    exact ⟨rfl, rfl⟩
  · rw [if_neg h]
    have h1 : m - (len : Int) < 0 := by omega
    go_enter Try.func45, Try.ntmps45
    go_wp2_with fail
    go_ret
    exact ⟨rfl, rfl⟩

set_option maxRecDepth 100000 in
set_option maxHeartbeats 800000 in
theorem w_eqIntS (a a' : Option Addr) (len cap cap' : Nat) (f : Nat → Int) (w : World) (hl : len ≤ 4294967296) (hR : RowInt a len f w) (hR' : RowInt a' len f w) :
    Calls Try.prog 62 #[.slice a len cap, .slice a' len cap'] w fun e w' => e = .returned (.bool true) ∧ Below w.heap.size w w' := by
  have hne : ((len : Int) != (len : Int)) = false := by simp
  go_enter Try.func62, Try.ntmps62
  go_wp2_with fail
  go_loopw [5] (fun i wr => ∃ k : Nat, k ≤ len ∧ i = .int .i64 k ∧ Below w.heap.size w wr) (fun i _ => len - (intOf i).toNat)
  case atStart => exact ⟨0, Nat.zero_le _, rfl, Below.refl _ _⟩
  case round =>
    obtain ⟨k, hk, rfl, hb⟩ := hrel
    by_cases hlt : k < len
    · obtain ⟨b, off, rfl, hbw, h0⟩ := hR k hlt
      obtain ⟨b', off', rfl, hbw', i0⟩ := hR' k hlt
      have h0 := (hb.cell (p := ⟨b, off + k, none⟩) hbw).trans h0
      have i0 := (hb.cell (p := ⟨b', off' + k, none⟩) hbw').trans i0
      have hlt' : (k : Int) < (len : Int) := by omega
      have hnf : (f k != f k) = false := by simp
      clear hR hR'
      go_wp2_with fail
      go_quiet (fail)
      go_wp2_with fail
      exact ⟨⟨k + 1, by omega, by go_num, below_drewN hb _⟩, by simp [intOf]; omega⟩
    · go_wp2_with fail
      go_ret
      exact ⟨rfl, hb⟩

set_option maxRecDepth 100000 in
set_option maxHeartbeats 800000 in
theorem w_markIntS (c len cap : Nat) (f : Nat → Int) (k0 : Int) (w : World) (hl : len ≤ 4294967296) (h0 : 0 ≤ k0) (h1 : k0 ≤ 1000000000000) (hO : OutInt c len len f w) :
    Calls Try.prog 63 #[.slice (some ⟨c, 0, none⟩) len cap, .int .i64 k0] w fun e w' => e = .returned (.int .i64 (k0 + (len : Int))) ∧ Only c w w' ∧ OutInt c len len (fun i => k0 + (i : Int)) w' := by
  go_enter Try.func63, Try.ntmps63
  go_wp2_with fail
  go_loopw [1, 5] (fun kk i wr => ∃ q : Nat, q ≤ len ∧ i = .int .i64 q ∧ kk = .int .i64 (k0 + (q : Int)) ∧ Only c w wr ∧ OutInt c len q (fun i => k0 + (i : Int)) wr) (fun _ i _ => len - (intOf i).toNat)
  case atStart => exact ⟨0, Nat.zero_le _, rfl, by simp, Only.refl _ _, hO.forget _⟩
  case round =>
    obtain ⟨q, hq, rfl, rfl, ho, hO'⟩ := hrel
    by_cases hlt : q < len
    · obtain ⟨⟨y0, i0, _⟩, g0⟩ := hO'.2 q hlt
      have hlt' : (q : Int) < (len : Int) := by omega
      clear hO
      go_wp2_with fail
      have hs := hO'.set hlt
      refine ⟨⟨q + 1, by omega, by go_num, ?_, ho.setCell _ _, ?_⟩, by simp [intOf]; omega⟩
      · congr 1; omega
      · simpa [Int.add_assoc] using hs
    · have hk' : q = len := by omega
      subst hk'
      go_wp2_with fail
      go_ret
      exact ⟨rfl, ho, hO'⟩
set_option maxRecDepth 100000 in
set_option maxHeartbeats 800000 in
theorem w_markIntS_nil (a : Option Addr) (cap : Nat) (k0 : Int) (w : World) :
    Calls Try.prog 63 #[.slice a 0 cap, .int .i64 k0] w fun e w' => e = .returned (.int .i64 k0) ∧ w' = w := by
  go_enter Try.func63, Try.ntmps63
  go_wp2_with fail
  go_loop [1, 5] (fun kk i => i = .int .i64 0 ∧ kk = .int .i64 k0) (fun _ _ => 0)
  case atStart => exact ⟨rfl, rfl⟩
  case round =>
    obtain ⟨rfl, rfl⟩ := hrel
    go_wp2_with fail
    go_ret
    exact ⟨rfl, rfl⟩
set_option maxRecDepth 100000 in
set_option maxHeartbeats 800000 in
theorem w_heldIntS (a : Option Addr) (len cap : Nat) (k0 : Int) (w : World) (hl : len ≤ 4294967296) (h0 : 0 ≤ k0) (h1 : k0 ≤ 1000000000000) (hR : RowInt a len (fun i => k0 + (i : Int)) w) :
    Calls Try.prog 64 #[.slice a len cap, .int .i64 k0] w fun e w' => e = .returned (.int .i64 (k0 + (len : Int))) ∧ w' = w := by
  go_enter Try.func64, Try.ntmps64
  go_wp2_with fail
  go_loop [1, 5] (fun kk i => ∃ q : Nat, q ≤ len ∧ i = .int .i64 q ∧ kk = .int .i64 (k0 + (q : Int))) (fun _ i => len - (intOf i).toNat)
  case atStart => exact ⟨0, Nat.zero_le _, rfl, by simp⟩
  case round =>
    obtain ⟨q, hq, rfl, rfl⟩ := hrel
    by_cases hlt : q < len
    · obtain ⟨b, off, rfl, hbw, i0⟩ := hR q hlt
      have hlt' : (q : Int) < (len : Int) := by omega
      dsimp only at i0
      clear hR
      go_wp2_with fail
      refine ⟨⟨q + 1, by omega, by go_num, ?_⟩, by simp [intOf]; omega⟩
      congr 1; omega
    · have hk' : q = len := by omega
      subst hk'
      go_wp2_with fail
      go_ret
      exact ⟨rfl, rfl⟩
end Go.Proofs.Ytflakkbodbnndaa

namespace Go.Proofs.Ytflakkbodbnndaa
open Go.RowKit

/-- The first cells of block b; they may be written. -/
def Mut (w : World) (b : Nat) (vs : List Value) : Prop := b < w.heap.size ∧ (∀ i v, vs[i]? = some v → w.cell? ⟨b, i, none⟩ = some v) ∧ ∀ i, i < vs.length → w.frozen? ⟨b, i, none⟩ = false
theorem Mut.below {w w' : World} {b : Nat} {vs : List Value} (h : Mut w b vs) (k : Below w.heap.size w w') : Mut w' b vs :=
  ⟨Nat.lt_of_lt_of_le h.1 k.size, fun i v hv => ((bcell k).1 _ _ h.1).trans (h.2.1 i v hv), fun i hi => ((bcell k).2 _ _ h.1).trans (h.2.2 i hi)⟩
theorem Mut.base {w w' : World} {b base : Nat} {vs : List Value} (h : Mut w b vs) (hb : b < base) (k : Below base w w') : Mut w' b vs :=
  ⟨Nat.lt_of_lt_of_le h.1 k.size, fun i v hv => (k.cell (p := ⟨b, i, none⟩) hb).trans (h.2.1 i v hv), fun i hi => (k.frozen (p := ⟨b, i, none⟩) hb).trans (h.2.2 i hi)⟩
theorem Mut.alloc {w : World} {b : Nat} {vs : List Value} (h : Mut w b vs) (o : Obj) : Mut (w.alloc o) b vs := h.below (below_box (Below.refl _ _))
theorem Mut.drew {w : World} {b : Nat} {vs : List Value} (h : Mut w b vs) : Mut w.drew b vs := h.below (Below.refl _ _).drew
theorem Mut.new (w : World) (vs : Array Value) (t : TypeId) : Mut (w.alloc (.cells vs t)) w.heap.size vs.toList :=
  ⟨by simp, fun i v hv => by simp [go_sem] at hv ⊢; exact hv, fun i _ => by simp [go_sem]⟩
theorem Mut.only {w w' : World} {b c : Nat} {vs : List Value} (h : Mut w b vs) (k : Only c w w') (hn : b ≠ c) : Mut w' b vs :=
  ⟨Nat.lt_of_lt_of_le h.1 k.2.2.2.1, fun i v hv => (k.cell h.1 hn).trans (h.2.1 i v hv), fun i hi => (k.frozen h.1 hn).trans (h.2.2 i hi)⟩
theorem Mut.other {w : World} {b c : Nat} {vs : List Value} (h : Mut w b vs) (hn : b ≠ c) (o : Nat) (v : Value) : Mut (w.setCell ⟨c, o, none⟩ v) b vs :=
  h.only ((Only.refl c w).setCell o v) hn
theorem Mut.set {w : World} {b : Nat} {vs : List Value} (h : Mut w b vs) (j : Nat) (v : Value) : Mut (w.setCell ⟨b, j, none⟩ v) b (vs.set j v) := by
  refine ⟨by simpa using h.1, fun i u hu => ?_, fun i hi => ?_⟩
  · by_cases e : j = i
    · subst e
      have hj : j < vs.length := by
        have := (List.getElem?_eq_some_iff.1 hu).1
        simpa using this
      rw [List.getElem?_set_self hj] at hu
      simp at hu
      subst hu
      obtain ⟨x, hx⟩ : ∃ x, vs[j]? = some x := ⟨_, List.getElem?_eq_getElem hj⟩
      have := h.2.1 j x hx
      simp [go_sem, this]
    · rw [List.getElem?_set_ne e] at hu
      rw [World.cell?_setCell_other _ _ _ _ (by simp <;> omega)]
      exact h.2.1 i u hu
  · have := h.2.2 i (by simpa using hi)
    simpa [go_sem] using this
end Go.Proofs.Ytflakkbodbnndaa
