/- Small means of the laws on lists of cells: what a mark leaves as it was, empty answers, answers in memory of their own. -/
import Derived.Test.YtdbaonpkdcmglaaS6h
namespace Go.Proofs.Ytdbaonpkdcmglaa
open Go.RowKit

theorem OutReCell.only {c d n k : Nat} {f0 f1 : Nat → Int} {w w' : World} (h : OutReCell c n k f0 f1 w) (ho : Only d w w') (hn : c ≠ d) : OutReCell c n k f0 f1 w' := by
  have hc := fun o => ho.cell (o := o) h.1 hn
  have hf := fun o => ho.frozen (o := o) h.1 hn
  refine ⟨Nat.lt_of_lt_of_le h.1 ho.2.2.2.1, fun i hi => ?_⟩
  obtain ⟨⟨x0, x1, h0, h1, hk⟩, g0, g1⟩ := h.2 i hi
  exact ⟨⟨x0, x1, (hc _).trans h0, (hc _).trans h1, hk⟩, (hf _).trans g0, (hf _).trans g1⟩
theorem only_base6 {c base : Nat} {w w' : World} (h : Only c w w') (hb : base ≤ c) (hc : c < w.heap.size) : Below base w w' := (h.below (by omega)).mono hb
theorem AnsQ.zero (w : World) {e : Ending} {w' : World} (h : e = .returned (.tuple #[.slice none 0 0, .bool false]) ∧ Below w.heap.size w w') : AnsQ false [] w e w' := ⟨_, h.1, ownQ_nil _ _, h.2⟩
theorem AnsQ.full {fl : Bool} {R : List Cl} {w w' : World} {e : Ending} (h : AnsQ fl R w e w') (hR : R ≠ []) :
    ∃ g c, e = .returned (.tuple #[.slice (some ⟨g, 0, none⟩) R.length c, .bool fl]) ∧ w.heap.size ≤ g ∧ OutReCell g R.length R.length (fun i => (qAt R i).1) (fun i => (qAt R i).2) w' ∧ Below w.heap.size w w' := by
  obtain ⟨v, rfl, ho, hb⟩ := h
  obtain ⟨g, c, rfl, hg, hgl⟩ := ownQ_shape ho hR
  exact ⟨g, c, rfl, hg, ownQ_out ho hgl, hb⟩
theorem AnsQ.nil {fl : Bool} {w w' : World} {e : Ending} (h : AnsQ fl [] w e w') : ∃ ga gc, e = .returned (.tuple #[.slice ga 0 gc, .bool fl]) ∧ Below w.heap.size w w' := by
  obtain ⟨v, rfl, ho, hb⟩ := h
  obtain ⟨a, c, rfl, _⟩ := ownQ_row ho
  exact ⟨a, c, rfl, hb⟩
set_option maxHeartbeats 400000 in
theorem w_markReCellS_nil (a : Option Addr) (c : Nat) (k0 : Int) (w : World) : Calls Try.prog 25 #[.slice a 0 c, .int .i64 k0] w fun e w' => e = .returned (.int .i64 k0) ∧ w' = w := by
  go_enter Try.func25, Try.ntmps25
  go_wp2_with fail
  go_loop [1, 5] (fun kk i => kk = .int .i64 k0 ∧ i = .int .i64 0) (fun _ i => 0 - (intOf i).toNat)
  case atStart => exact ⟨rfl, rfl⟩
  case round =>
    obtain ⟨rfl, rfl⟩ := hrel
    go_wp2_with fail
    go_ret
    exact ⟨rfl, rfl⟩
end Go.Proofs.Ytdbaonpkdcmglaa
