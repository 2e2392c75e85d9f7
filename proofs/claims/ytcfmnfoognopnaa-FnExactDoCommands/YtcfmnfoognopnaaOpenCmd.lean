/- Lists of commands that came in, opened. -/
import Derived.Test.YtcfmnfoognopnaaCmdA15
import Derived.Test.YtcfmnfoognopnaaOpenString
import Derived.Test.YtcfmnfoognopnaaOpenKit
import Derived.Lib.SmallJoins
namespace Go.Proofs.Ytcfmnfoognopnaa
open Go.ChangeShapes Go.WideShapes Go.ChangeAt Go.RowKit Go.Deep Go.Joins

theorem list3c {α : Type} {l : List α} (h : l.length = 3) : ∃ a b c, l = [a, b, c] := by
  match l, h with
  | [a, b, c], _ => exact ⟨a, b, c, rfl⟩
theorem choose_cm {len : Nat} {p : Nat → Cm15 → Prop} (h : ∀ i, i < len → ∃ q, p i q) : ∃ f : Nat → Cm15, ∀ i, i < len → p i (f i) := by
  refine ⟨fun i => if hi : i < len then Classical.choose (h i hi) else cm0, fun i hi => ?_⟩
  simp only [dif_pos hi]
  exact Classical.choose_spec (h i hi)
set_option maxRecDepth 100000 in
theorem open_cmd {H : Type} {enc : TypeId × Value → H} {W : World} {base : Nat} {spare : Nat → Bool} {held : Bool} {fuel : Nat} {vs : List Value} {y : DataW H × List MemPlace} (hvs : vs.length = 3)
    (h : DataW.trod enc Try.prog W base spare held fuel 44 vs = some y) : ∃ (bs : Bool) (a : Option Addr) (n c : Nat) (f : Nat → ByteArray) (s : ByteArray), vs = [.bool bs, .slice a n c, .string s] ∧ n ≤ maxLen ∧ (∀ i, i < n → (f i).size ≤ maxLen) ∧ s.size ≤ maxLen ∧ RowStr a n f W := by
  have cb : Try.prog.cellsOf 4 = 1 := by kernel_rfl
  have cs : Try.prog.cellsOf 9 = 1 := by kernel_rfl
  have cl : Try.prog.cellsOf 23 = 1 := by kernel_rfl
  obtain ⟨vb, v0, v1, rfl⟩ := list3c hvs
  obtain ⟨xs, k, hk, hxy, _, hxl, hf⟩ := DataW.trod_struct Try.underlying44 h
  obtain ⟨yb, y0, y1, rfl⟩ := list3c (show xs.length = 3 by rw [hxl]; rfl)
  have gb := hf 0 _ rfl
  have g0 := hf 1 _ rfl
  have g1 := hf 2 _ rfl
  simp [cb, cs, cl] at gb g0 g1
  obtain ⟨bs, hwb, _⟩ := DataW.trod_bool Try.underlying4 gb
  obtain ⟨a0, n0, c0, hw0⟩ := slice_form Try.underlying23 g0
  obtain ⟨s, hw1, _, hs⟩ := DataW.trod_string Try.underlying9 g1
  simp at hwb hw0 hw1
  subst hwb hw0 hw1
  obtain ⟨hl0, f, hR0, hX⟩ := open_rowString g0
  exact ⟨bs, a0, n0, c0, f, s, rfl, hl0, hX, hs, hR0⟩
set_option maxRecDepth 100000 in
theorem open_cmds {H : Type} {enc : TypeId × Value → H} {W : World} {base : Nat} {spare : Nat → Bool} {held : Bool} {fuel : Nat} {a : Option Addr} {len cap : Nat} {y : DataW H × List MemPlace}
    (h : DataW.trod enc Try.prog W base spare held fuel 35 [.slice a len cap] = some y) : len ≤ maxLen ∧ ∃ T, RowCX a len T W ∧ MaxCX len T := by
  rcases open_slice Try.underlying35 h with ⟨hcs, _⟩ | ⟨x, l, c, m, n, D, Pl, hcs, _, hl, hm, hmm, _, hel⟩
  · simp at hcs
    obtain ⟨rfl, rfl, rfl⟩ := hcs
    exact ⟨Nat.zero_le _, fun _ => cm0, fun i hi => absurd hi (Nat.not_lt_zero _), fun i hi => absurd hi (Nat.not_lt_zero _)⟩
  · simp at hcs
    obtain ⟨rfl, rfl, rfl⟩ := hcs
    have hlm : len ≤ m := by rw [hmm]; split <;> omega
    have hce : Try.prog.cellsOf 44 = 3 := by kernel_rfl
    have each : ∀ i, i < len → ∃ t : Cm15, (∃ (b off : Nat) (a0 : Option Addr) (c0 : Nat), x = ⟨b, off, none⟩ ∧ b < W.heap.size ∧
        W.cell? ⟨b, off + i * 3, none⟩ = some (.bool t.s) ∧ W.cell? ⟨b, off + i * 3 + 1, none⟩ = some (.slice a0 t.t.n c0) ∧ W.cell? ⟨b, off + i * 3 + 2, none⟩ = some (.string t.t.v) ∧ RowStr a0 t.t.n t.t.p W) ∧ OkF t.t maxLen := by
      intro i hi
      have hx : ∃ b off, x = ⟨b, off, none⟩ := by
        obtain ⟨cs0, h1, _⟩ := hel 0 (by omega)
        rw [hce] at h1
        obtain ⟨_, hlen, hcell⟩ := World.cells?_some h1
        have := hcell 0 (by omega)
        rw [List.getElem?_eq_getElem (by omega)] at this
        exact addr_plain (by simpa [Addr.add] using this)
      obtain ⟨b, off, rfl⟩ := hx
      obtain ⟨cs', h1, h2⟩ := hel i (by omega)
      rw [hce] at h1
      obtain ⟨_, hlen, hcell⟩ := World.cells?_some h1
      obtain ⟨bs, a0, n0, c0, f, s, rfl, l0, hX, hs, R0⟩ := open_cmd hlen h2
      have c1 := hcell 0 (by omega)
      have c2 := hcell 1 (by omega)
      have c3 := hcell 2 (by omega)
      rw [add_add, Addr.add_mid] at c1 c2 c3
      have hb := World.block_lt_of_cell? W _ c1
      exact ⟨⟨bs, ⟨n0, f, s⟩⟩, ⟨b, off, a0, c0, rfl, hb, by simpa using c1, by simpa [Nat.add_assoc] using c2, by simpa [Nat.add_assoc] using c3, R0⟩, l0, hX, hs⟩
    obtain ⟨T, hT⟩ := choose_cm each
    refine ⟨Nat.le_trans hl hm, T, fun i hi => ?_, fun i hi => (hT i hi).2⟩
    obtain ⟨b, off, a0, c0, hx, hbw, h0, h1, h2, hr⟩ := (hT i hi).1
    exact ⟨b, off, a0, c0, by rw [hx], hbw, h0, h1, h2, hr⟩
end Go.Proofs.Ytcfmnfoognopnaa
