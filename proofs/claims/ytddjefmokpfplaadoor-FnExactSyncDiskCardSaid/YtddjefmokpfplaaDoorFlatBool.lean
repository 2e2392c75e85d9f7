/- (Flags.) Rows of flags in memory, and what the laws do with them: handed over, compared. -/
import Derived.Test.YtddjefmokpfplaaDoorW0
namespace Go.Proofs.YtddjefmokpfplaaDoor
open Go.RowKit

/-- n strings at a, told by f. -/
def RowBl (a : Option Addr) (n : Nat) (f : Nat → Bool) (w : World) : Prop := ∀ i, i < n → ∃ b off, a = some ⟨b, off, none⟩ ∧ b < w.heap.size ∧ w.cell? ⟨b, off + i, none⟩ = some (.bool (f i))
theorem RowBl.below {a : Option Addr} {n : Nat} {f : Nat → Bool} {w w' : World} (h : RowBl a n f w) (k : Below w.heap.size w w') : RowBl a n f w' := by
  intro i hi
  obtain ⟨b, off, ha, hb, h0⟩ := h i hi
  obtain ⟨hc, _⟩ := bcell k
  exact ⟨b, off, ha, Nat.lt_of_lt_of_le hb k.size, (hc _ _ hb).trans h0⟩
theorem RowBl.congr {a : Option Addr} {n : Nat} {f g : Nat → Bool} {w : World} (h : RowBl a n f w) (e : ∀ i, i < n → f i = g i) : RowBl a n g w := by
  intro i hi
  rw [← e i hi]
  exact h i hi

/-- A row of n strings in block c, the first k told; it may be written. -/
def OutBl (c n k : Nat) (f : Nat → Bool) (w : World) : Prop := c < w.heap.size ∧ ∀ i, i < n → (∃ x : Bool, w.cell? ⟨c, i, none⟩ = some (.bool x) ∧ (i < k → x = f i)) ∧ w.frozen? ⟨c, i, none⟩ = false
theorem OutBl.below {c n k : Nat} {f : Nat → Bool} {w w' : World} (h : OutBl c n k f w) (hb : Below w.heap.size w w') : OutBl c n k f w' := by
  obtain ⟨hc, hf⟩ := bcell hb
  refine ⟨Nat.lt_of_lt_of_le h.1 hb.size, fun i hi => ?_⟩
  obtain ⟨⟨x, h0, hk⟩, g0⟩ := h.2 i hi
  exact ⟨⟨x, (hc _ _ h.1).trans h0, hk⟩, (hf _ _ h.1).trans g0⟩
theorem OutBl.only {c n k d : Nat} {f : Nat → Bool} {w w' : World} (h : OutBl c n k f w) (hb : Only d w w') (hn : c ≠ d) : OutBl c n k f w' := by
  refine ⟨Nat.lt_of_lt_of_le h.1 hb.2.2.2.1, fun i hi => ?_⟩
  obtain ⟨⟨x, h0, hk⟩, g0⟩ := h.2 i hi
  exact ⟨⟨x, (hb.cell h.1 hn).trans h0, hk⟩, (hb.frozen h.1 hn).trans g0⟩
theorem OutBl.row {c n : Nat} {f : Nat → Bool} {w : World} (h : OutBl c n n f w) : RowBl (some ⟨c, 0, none⟩) n f w := by
  intro i hi
  obtain ⟨⟨x, h0, hk⟩, g0⟩ := h.2 i hi
  obtain rfl := hk hi
  exact ⟨c, 0, rfl, h.1, by rw [Nat.zero_add]; exact h0⟩
theorem OutBl.set {c n k : Nat} {f : Nat → Bool} {w : World} (h : OutBl c n k f w) (hk : k < n) : OutBl c n (k + 1) f (w.setCell ⟨c, k, none⟩ (.bool (f k))) := by
  refine ⟨by have := h.1; simpa using this, fun i hi => ?_⟩
  obtain ⟨⟨x, h0, hx⟩, g0⟩ := h.2 i hi
  by_cases e : i = k
  · subst e
    refine ⟨⟨f i, ?_, fun _ => rfl⟩, ?_⟩ <;> simp [go_sem, h0, g0]
  · refine ⟨⟨x, ?_, fun hlt => hx (by omega)⟩, ?_⟩
    · rw [World.cell?_setCell_other _ _ _ _ (by simp <;> omega)]; exact h0
    · simpa [go_sem] using g0
theorem OutBl.forget {c n k : Nat} {f : Nat → Bool} {w : World} (h : OutBl c n k f w) (g : Nat → Bool) : OutBl c n 0 g w := by
  refine ⟨h.1, fun i hi => ?_⟩
  obtain ⟨⟨x, h0, hk⟩, z0⟩ := h.2 i hi
  exact ⟨⟨x, h0, fun h => absurd h (Nat.not_lt_zero _)⟩, z0⟩
theorem OutBl.start (w : World) (n : Nat) (f : Nat → Bool) (t : TypeId) : OutBl w.heap.size n 0 f (w.alloc (.cells (madeCells #[.bool false] n) t)) := by
  refine ⟨by simp, fun i hi => ?_⟩
  have e : (madeCells #[.bool false] n)[i]? = some (.bool false) := by
    simp only [madeCells, Array.getElem?_map, Array.getElem?_range, hi, if_true, Option.map_some]
    simp only [List.size_toArray, List.length_cons, List.length_nil, Nat.zero_add, Nat.mod_one]
    rfl
  refine ⟨⟨false, ?_, fun h => absurd h (Nat.not_lt_zero _)⟩, ?_⟩ <;> simp [go_sem, e]

set_option maxRecDepth 100000 in
set_option maxHeartbeats 800000 in
theorem w_toBoolS (a : Option Addr) (len cap : Nat) (f : Nat → Bool) (w : World) (hl : len ≤ 1048576) (hR : RowBl a len f w) :
    Calls Tryd.prog 16 #[.slice a len cap] w fun e w' => e = .returned (.slice (some ⟨w.heap.size, 0, none⟩) len len) ∧ Below w.heap.size w w' ∧ OutBl w.heap.size len len f w' := by
  have hinfo : (Tryd.prog.info? 4).map (fun i => (i.zero, i.size, i.bytes)) = some (some (.bool false), 1, 1) := by kernel_rfl
  obtain ⟨i, hi, hzz⟩ := Option.map_eq_some_iff.1 hinfo
  simp only [Prod.mk.injEq] at hzz
  obtain ⟨hz, hsz, hby⟩ := hzz
  have hmk := fun w : World => run_make (P := Tryd.prog) w 38 4 i _ Tryd.underlying38 hi hz .i64 .i64 (len : Int) (len : Int) (by omega) (by omega) (by rw [hby]; omega) (by omega)
  rw [hsz] at hmk
  clear hi hz hsz hby hinfo
  simp only [Int.toNat_natCast, Nat.mul_one, Value.cells] at hmk
  go_enter Tryd.func16, Tryd.ntmps16
  go_wp2_with fail
  go_loopw [4] (fun i wr => ∃ k : Nat, k ≤ len ∧ i = .int .i64 k ∧ Below w.heap.size w wr ∧ OutBl w.heap.size len k f wr) (fun i _ => len - (intOf i).toNat)
  case atStart => exact ⟨0, Nat.zero_le _, rfl, below_box (Below.refl _ _), OutBl.start w len f _⟩
  case round =>
    obtain ⟨k, hk, rfl, hb, ho⟩ := hrel
    by_cases hlt : k < len
    · obtain ⟨b, off, rfl, hbw, h0⟩ := hR k hlt
      have h0 := (hb.cell (p := ⟨b, off + k, none⟩) hbw).trans h0
      have hlt' : (k : Int) < (len : Int) := by omega
      clear hR hmk
      obtain ⟨⟨y0, i0, _⟩, g0⟩ := ho.2 k hlt
      go_wp2_with fail
      exact ⟨⟨k + 1, by omega, by go_num, (hb.setCell (Nat.le_refl _) _), ho.set hlt⟩, by simp [intOf]; omega⟩
    · have hk' : k = len := by omega
      subst hk'
      go_wp2_with fail
      go_ret
      exact ⟨rfl, hb, ho⟩

set_option maxRecDepth 100000 in
set_option maxHeartbeats 800000 in
theorem w_eqBoolS (a a' : Option Addr) (len cap cap' : Nat) (f : Nat → Bool) (w : World) (hl : len ≤ 4294967296) (hR : RowBl a len f w) (hR' : RowBl a' len f w) :
    Calls Tryd.prog 18 #[.slice a len cap, .slice a' len cap'] w fun e w' => e = .returned (.bool true) ∧ Below w.heap.size w w' := by
  have hne : ((len : Int) != (len : Int)) = false := by simp
  go_enter Tryd.func18, Tryd.ntmps18
  go_wp2_with fail
  go_loopw [5] (fun i wr => ∃ k : Nat, k ≤ len ∧ i = .int .i64 k ∧ Below w.heap.size w wr) (fun i _ => len - (intOf i).toNat)
  case atStart => exact ⟨0, Nat.zero_le _, rfl, Below.refl _ _⟩
  case round =>
    obtain ⟨k, hk, rfl, hb⟩ := hrel
    by_cases hlt : k < len
    · obtain ⟨b, off, rfl, hbw, h0⟩ := hR k hlt
      obtain ⟨b', off', rfl, hbw', i0⟩ := hR' k hlt
      have h0 := (hb.cell (p := ⟨b, off + k, none⟩) hbw).trans h0
      have i0 := (hb.cell (p := ⟨b', off' + k, none⟩) hbw').trans i0
      have hlt' : (k : Int) < (len : Int) := by omega
      clear hR hR'
      go_wp2_with fail
      go_quiet (fail)
      go_wp2_with fail
      exact ⟨⟨k + 1, by omega, by go_num, below_drewN hb _⟩, by simp [intOf]; omega⟩
    · go_wp2_with fail
      go_ret
      exact ⟨rfl, hb⟩

set_option maxRecDepth 100000 in
set_option maxHeartbeats 1600000 in
theorem w_markBoolS (c len cap : Nat) (f : Nat → Bool) (k0 : Int) (w : World) (hl : len ≤ 4294967296) (h0 : 1 ≤ k0) (h1 : k0 ≤ 100000000000) (hO : OutBl c len len f w) :
    Calls Tryd.prog 19 #[.slice (some ⟨c, 0, none⟩) len cap, .int .i64 k0] w fun e w' => e = .returned (.int .i64 (k0 + (len : Int))) ∧ Only c w w' := by
  go_enter Tryd.func19, Tryd.ntmps19
  go_wp2_with fail
  go_loopw [1, 5] (fun kk i wr => ∃ q : Nat, q ≤ len ∧ i = .int .i64 q ∧ kk = .int .i64 (k0 + q) ∧ Only c w wr ∧ OutBl c len 0 f wr) (fun _ i _ => len - (intOf i).toNat)
  case atStart => exact ⟨0, Nat.zero_le _, rfl, by simp, Only.refl _ _, hO.forget _⟩
  case round =>
    obtain ⟨q, hq, rfl, rfl, ho, hO'⟩ := hrel
    by_cases hlt : q < len
    · obtain ⟨⟨y0, i0, _⟩, g0⟩ := hO'.2 q hlt
      have hlt' : (q : Int) < (len : Int) := by omega
      have hc := hO'.1
      have hkk := hide (show (k0 + ((q + 1 : Nat) : Int)) = k0 + (q : Int) + 1 by omega)
      have hb2 : k0 + (q : Int) ≤ 1000000000000 := by omega
      have hb3 : (0 : Int) ≤ k0 + (q : Int) := by omega
      have hst := hide (fun (x : Bool) => (show OutBl c len 0 f (wr.setCell ⟨c, q, none⟩ (.bool x)) from ⟨by have := hO'.1; simpa using this, fun i hi => by
        obtain ⟨⟨y, h1, _⟩, g⟩ := hO'.2 i hi
        by_cases e : i = q
        · subst e
          exact ⟨⟨x, by simp [go_sem, h1], fun h => absurd h (Nat.not_lt_zero _)⟩, by simpa [go_sem] using g⟩
        · exact ⟨⟨y, by rw [World.cell?_setCell_other _ _ _ _ (by simp <;> omega)]; exact h1, fun h => absurd h (Nat.not_lt_zero _)⟩, by simpa [go_sem] using g⟩⟩))
      clear hO hO'
      generalize hKK : k0 + (q : Int) = K at *
      clear hKK
      go_wp2_with fail
      exact ⟨⟨q + 1, by omega, by go_num, by rw [hkk.out], ho.setCell _ _, hst.out _⟩, by simp [intOf]; omega⟩
    · have hk' : q = len := by omega
      subst hk'
      go_wp2_with fail
      go_ret
      exact ⟨rfl, ho⟩
end Go.Proofs.YtddjefmokpfplaaDoor
