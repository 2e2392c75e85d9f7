/- Rows of strings in memory, and what the laws do with them: handed over, compared. -/
import Derived.Test.YtnpnhdaehddnmaaDoorW0
namespace Go.Proofs.YtnpnhdaehddnmaaDoor
open Go.RowKit

/-- n strings at a, told by f. -/
def RowStr (a : Option Addr) (n : Nat) (f : Nat → ByteArray) (w : World) : Prop := ∀ i, i < n → ∃ b off, a = some ⟨b, off, none⟩ ∧ b < w.heap.size ∧ w.cell? ⟨b, off + i, none⟩ = some (.string (f i))
theorem RowStr.below {a : Option Addr} {n : Nat} {f : Nat → ByteArray} {w w' : World} (h : RowStr a n f w) (k : Below w.heap.size w w') : RowStr a n f w' := by
  intro i hi
  obtain ⟨b, off, ha, hb, h0⟩ := h i hi
  obtain ⟨hc, _⟩ := bcell k
  exact ⟨b, off, ha, Nat.lt_of_lt_of_le hb k.size, (hc _ _ hb).trans h0⟩
theorem RowStr.congr {a : Option Addr} {n : Nat} {f g : Nat → ByteArray} {w : World} (h : RowStr a n f w) (e : ∀ i, i < n → f i = g i) : RowStr a n g w := by
  intro i hi
  rw [← e i hi]
  exact h i hi

/-- A row of n strings in block c, the first k told; it may be written. -/
def OutStr (c n k : Nat) (f : Nat → ByteArray) (w : World) : Prop := c < w.heap.size ∧ ∀ i, i < n → (∃ x : ByteArray, w.cell? ⟨c, i, none⟩ = some (.string x) ∧ (i < k → x = f i)) ∧ w.frozen? ⟨c, i, none⟩ = false
theorem OutStr.below {c n k : Nat} {f : Nat → ByteArray} {w w' : World} (h : OutStr c n k f w) (hb : Below w.heap.size w w') : OutStr c n k f w' := by
  obtain ⟨hc, hf⟩ := bcell hb
  refine ⟨Nat.lt_of_lt_of_le h.1 hb.size, fun i hi => ?_⟩
  obtain ⟨⟨x, h0, hk⟩, g0⟩ := h.2 i hi
  exact ⟨⟨x, (hc _ _ h.1).trans h0, hk⟩, (hf _ _ h.1).trans g0⟩
theorem OutStr.only {c n k d : Nat} {f : Nat → ByteArray} {w w' : World} (h : OutStr c n k f w) (hb : Only d w w') (hn : c ≠ d) : OutStr c n k f w' := by
  refine ⟨Nat.lt_of_lt_of_le h.1 hb.2.2.2.1, fun i hi => ?_⟩
  obtain ⟨⟨x, h0, hk⟩, g0⟩ := h.2 i hi
  exact ⟨⟨x, (hb.cell h.1 hn).trans h0, hk⟩, (hb.frozen h.1 hn).trans g0⟩
theorem OutStr.row {c n : Nat} {f : Nat → ByteArray} {w : World} (h : OutStr c n n f w) : RowStr (some ⟨c, 0, none⟩) n f w := by
  intro i hi
  obtain ⟨⟨x, h0, hk⟩, g0⟩ := h.2 i hi
  obtain rfl := hk hi
  exact ⟨c, 0, rfl, h.1, by rw [Nat.zero_add]; exact h0⟩
theorem OutStr.set {c n k : Nat} {f : Nat → ByteArray} {w : World} (h : OutStr c n k f w) (hk : k < n) : OutStr c n (k + 1) f (w.setCell ⟨c, k, none⟩ (.string (f k))) := by
  refine ⟨by have := h.1; simpa using this, fun i hi => ?_⟩
  obtain ⟨⟨x, h0, hx⟩, g0⟩ := h.2 i hi
  by_cases e : i = k
  · subst e
    refine ⟨⟨f i, ?_, fun _ => rfl⟩, ?_⟩ <;> simp [go_sem, h0, g0]
  · refine ⟨⟨x, ?_, fun hlt => hx (by omega)⟩, ?_⟩
    · rw [World.cell?_setCell_other _ _ _ _ (by simp <;> omega)]; exact h0
    · simpa [go_sem] using g0
theorem OutStr.forget {c n k : Nat} {f : Nat → ByteArray} {w : World} (h : OutStr c n k f w) (g : Nat → ByteArray) : OutStr c n 0 g w := by
  refine ⟨h.1, fun i hi => ?_⟩
  obtain ⟨⟨x, h0, hk⟩, z0⟩ := h.2 i hi
  exact ⟨⟨x, h0, fun h => absurd h (Nat.not_lt_zero _)⟩, z0⟩
theorem OutStr.start (w : World) (n : Nat) (f : Nat → ByteArray) (t : TypeId) : OutStr w.heap.size n 0 f (w.alloc (.cells (madeCells #[.string ByteArray.empty] n) t)) := by
  refine ⟨by simp, fun i hi => ?_⟩
  have e : (madeCells #[.string ByteArray.empty] n)[i]? = some (.string ByteArray.empty) := by
    simp only [madeCells, Array.getElem?_map, Array.getElem?_range, hi, if_true, Option.map_some]
    simp only [List.size_toArray, List.length_cons, List.length_nil, Nat.zero_add, Nat.mod_one]
    rfl
  refine ⟨⟨ByteArray.empty, ?_, fun h => absurd h (Nat.not_lt_zero _)⟩, ?_⟩ <;> simp [go_sem, e]

set_option maxRecDepth 100000 in
set_option maxHeartbeats 800000 in
theorem w_toStringS (a : Option Addr) (len cap : Nat) (f : Nat → ByteArray) (w : World) (hl : len ≤ 1048576) (hR : RowStr a len f w) :
    Calls Tryd.prog 23 #[.slice a len cap] w fun e w' => e = .returned (.slice (some ⟨w.heap.size, 0, none⟩) len len) ∧ Below w.heap.size w w' ∧ OutStr w.heap.size len len f w' := by
  have hinfo : (Tryd.prog.info? 9).map (fun i => (i.zero, i.size, i.bytes)) = some (some (.string ByteArray.empty), 1, 16) := by kernel_rfl
  obtain ⟨i, hi, hzz⟩ := Option.map_eq_some_iff.1 hinfo
  simp only [Prod.mk.injEq] at hzz
  obtain ⟨hz, hsz, hby⟩ := hzz
  have hmk := fun w : World => run_make (P := Tryd.prog) w 22 9 i _ Tryd.underlying22 hi hz .i64 .i64 (len : Int) (len : Int) (by omega) (by omega) (by rw [hby]; omega) (by omega)
  rw [hsz] at hmk
  clear hi hz hsz hby hinfo
  simp only [Int.toNat_natCast, Nat.mul_one, Value.cells] at hmk
  go_enter Tryd.func23, Tryd.ntmps23
  go_wp2_with fail
  go_loopw [4] (fun i wr => ∃ k : Nat, k ≤ len ∧ i = .int .i64 k ∧ Below w.heap.size w wr ∧ OutStr w.heap.size len k f wr) (fun i _ => len - (intOf i).toNat)
  case atStart => exact ⟨0, Nat.zero_le _, rfl, below_box (Below.refl _ _), OutStr.start w len f _⟩
  case round =>
    obtain ⟨k, hk, rfl, hb, ho⟩ := hrel
    by_cases hlt : k < len
    · obtain ⟨b, off, rfl, hbw, h0⟩ := hR k hlt
      have h0 := (hb.cell (p := ⟨b, off + k, none⟩) hbw).trans h0
      have hlt' : (k : Int) < (len : Int) := by omega
      clear hR hmk
      obtain ⟨⟨y0, i0, _⟩, g0⟩ := ho.2 k hlt
      go_wp2_with fail
      exact ⟨⟨k + 1, by omega, by go_num, (hb.setCell (Nat.le_refl _) _), ho.set hlt⟩, by simp [intOf]; omega⟩
    · have hk' : k = len := by omega
      subst hk'
      go_wp2_with fail
      go_ret
      exact ⟨rfl, hb, ho⟩

set_option maxRecDepth 100000 in
set_option maxHeartbeats 800000 in
theorem w_eqStringS (a a' : Option Addr) (len cap cap' : Nat) (f : Nat → ByteArray) (w : World) (hl : len ≤ 4294967296) (hR : RowStr a len f w) (hR' : RowStr a' len f w) :
    Calls Tryd.prog 29 #[.slice a len cap, .slice a' len cap'] w fun e w' => e = .returned (.bool true) ∧ Below w.heap.size w w' := by
  have hne : ((len : Int) != (len : Int)) = false := by simp
  go_enter Tryd.func29, Tryd.ntmps29
  go_wp2_with fail
  go_loopw [5] (fun i wr => ∃ k : Nat, k ≤ len ∧ i = .int .i64 k ∧ Below w.heap.size w wr) (fun i _ => len - (intOf i).toNat)
  case atStart => exact ⟨0, Nat.zero_le _, rfl, Below.refl _ _⟩
  case round =>
    obtain ⟨k, hk, rfl, hb⟩ := hrel
    by_cases hlt : k < len
    · obtain ⟨b, off, rfl, hbw, h0⟩ := hR k hlt
      obtain ⟨b', off', rfl, hbw', i0⟩ := hR' k hlt
      have h0 := (hb.cell (p := ⟨b, off + k, none⟩) hbw).trans h0
      have i0 := (hb.cell (p := ⟨b', off' + k, none⟩) hbw').trans i0
      have hlt' : (k : Int) < (len : Int) := by omega
      clear hR hR'
      go_wp2_with fail
      go_quiet (fail)
      go_wp2_with fail
      exact ⟨⟨k + 1, by omega, by go_num, below_drewN hb _⟩, by simp [intOf]; omega⟩
    · go_wp2_with fail
      go_ret
      exact ⟨rfl, hb⟩

/-- The strings that f tells. -/
def listS (n : Nat) (f : Nat → ByteArray) : List ByteArray := (List.range n).map f
theorem listS_len (n : Nat) (f : Nat → ByteArray) : (listS n f).length = n := by simp [listS]
end Go.Proofs.YtnpnhdaehddnmaaDoor
