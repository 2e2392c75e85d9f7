/- Edges of an answer, which may be none: compared, marked, held. -/
import Derived.Test.YtdbaonpkdcmglaaB6
import Derived.Test.YtdbaonpkdcmglaaW6k
namespace Go.Proofs.Ytdbaonpkdcmglaa
open Go.RowKit

/-- n edges at a, in block c; they may be written. Or none. -/
def WrG (a : Option Addr) (c n : Nat) (F0 F1 : Nat → Int) (F2 F3 : Nat → Bool) (F4 : Nat → Int) (w : World) : Prop := n = 0 ∨ (a = some ⟨c, 0, none⟩ ∧ OutNfaEdge c n n F0 F1 F2 F3 F4 w)
/-- Nothing has turned but these edges. -/
def OnG (c n : Nat) (w w' : World) : Prop := n = 0 ∧ w' = w ∨ n ≠ 0 ∧ Only c w w'
theorem WrG.row {a : Option Addr} {c n : Nat} {F0 F1 : Nat → Int} {F2 F3 : Nat → Bool} {F4 : Nat → Int} {w : World} (h : WrG a c n F0 F1 F2 F3 F4 w) : RowNfaEdge a n F0 F1 F2 F3 F4 w := by
  rcases h with rfl | ⟨rfl, h⟩
  · exact fun i hi => absurd hi (Nat.not_lt_zero _)
  · exact h.row
theorem WrG.below {a : Option Addr} {c n : Nat} {F0 F1 : Nat → Int} {F2 F3 : Nat → Bool} {F4 : Nat → Int} {w w' : World} (h : WrG a c n F0 F1 F2 F3 F4 w) (b : Below w.heap.size w w') : WrG a c n F0 F1 F2 F3 F4 w' := by
  rcases h with rfl | ⟨rfl, h⟩
  · exact .inl rfl
  · exact .inr ⟨rfl, h.below b⟩
theorem WrG.only {a : Option Addr} {c d n : Nat} {F0 F1 : Nat → Int} {F2 F3 : Nat → Bool} {F4 : Nat → Int} {w w' : World} (h : WrG a c n F0 F1 F2 F3 F4 w) (o : Only d w w') (hn : n ≠ 0 → c ≠ d) : WrG a c n F0 F1 F2 F3 F4 w' := by
  by_cases e : n = 0
  · exact .inl e
  · rcases h with h | ⟨rfl, h⟩
    · exact absurd h e
    · exact .inr ⟨rfl, h.only o (hn e)⟩
theorem WrG.on {a : Option Addr} {c d n : Nat} {F0 F1 : Nat → Int} {F2 F3 : Nat → Bool} {F4 : Nat → Int} {w w' : World} (h : WrG a c n F0 F1 F2 F3 F4 w) (o : OnG d n w w') (hn : n ≠ 0 → c ≠ d) : WrG a c n F0 F1 F2 F3 F4 w' := by
  rcases o with ⟨_, rfl⟩ | ⟨e, o⟩
  · exact h
  · exact h.only o hn
theorem Mut.onG {w w' : World} {b c n : Nat} {vs : List Value} (h : Mut w b vs) (o : OnG c n w w') (hn : n ≠ 0 → b ≠ c) : Mut w' b vs := by
  rcases o with ⟨_, rfl⟩ | ⟨e, o⟩
  · exact h
  · exact h.only o (hn e)
theorem OnG.base {c n base : Nat} {w w' : World} (o : OnG c n w w') (hb : n ≠ 0 → base ≤ c ∧ c < w.heap.size) : Below base w w' := by
  rcases o with ⟨_, rfl⟩ | ⟨e, o⟩
  · exact Below.refl _ _
  · exact only_base6 o (hb e).1 (hb e).2
theorem WrG.lt {a : Option Addr} {c n : Nat} {F0 F1 : Nat → Int} {F2 F3 : Nat → Bool} {F4 : Nat → Int} {w : World} (h : WrG a c n F0 F1 F2 F3 F4 w) (hn : n ≠ 0) : c < w.heap.size := by
  rcases h with h | ⟨_, h⟩
  · exact absurd h hn
  · exact h.1
theorem AnsN.wr {fl : Bool} {s en : Int} {R : List Ed} {w w' : World} {e : Ending} (h : AnsN fl s en R w e w') :
    ∃ a c g, e = .returned (.tuple #[.agg #[.int .i64 s, .int .i64 0, .int .i64 en, .slice a R.length c], .bool fl]) ∧ (R.length ≠ 0 → w.heap.size ≤ g) ∧ WrG a g R.length (fun i => (gAt R i).1) (fun i => (gAt R i).2.1) (fun i => (gAt R i).2.2.1) (fun i => (gAt R i).2.2.2.1) (fun i => (gAt R i).2.2.2.2) w' ∧ Below w.heap.size w w' := by
  obtain ⟨v, rfl, ho, hb⟩ := h
  by_cases hR : R = []
  · obtain ⟨a, c, rfl, _, _⟩ := ownG_row ho
    exact ⟨a, c, 0, rfl, fun h => absurd (by rw [hR]; rfl) h, .inl (by rw [hR]; rfl), hb⟩
  · obtain ⟨g, c, rfl, hg, hgl⟩ := ownG_shape ho hR
    exact ⟨_, c, g, rfl, fun _ => hg, .inr ⟨rfl, ownG_out ho hgl⟩, hb⟩
set_option maxHeartbeats 400000 in
theorem w_markNfaEdgeS_nil (a : Option Addr) (c : Nat) (k0 : Int) (w : World) : Calls Try.prog 67 #[.slice a 0 c, .int .i64 k0] w fun e w' => e = .returned (.int .i64 k0) ∧ w' = w := by
  go_enter Try.func67, Try.ntmps67
  go_wp2_with fail
  go_loop [1, 5] (fun kk i => kk = .int .i64 k0 ∧ i = .int .i64 0) (fun _ i => 0 - (intOf i).toNat)
  case atStart => exact ⟨rfl, rfl⟩
  case round =>
    obtain ⟨rfl, rfl⟩ := hrel
    go_wp2_with fail
    go_ret
    exact ⟨rfl, rfl⟩
theorem w_markG (a : Option Addr) (c n cap : Nat) (F0 F1 : Nat → Int) (F2 F3 : Nat → Bool) (F4 : Nat → Int) (w : World) (hl : n ≤ 1048576) (h : WrG a c n F0 F1 F2 F3 F4 w) :
    Calls Try.prog 67 #[.slice a n cap, .int .i64 1] w fun e w' => e = .returned (.int .i64 (1 + 5 * (n : Int))) ∧ OnG c n w w' ∧ WrG a c n (fun i => 1 + 5 * (i : Int) + 0) (fun i => 1 + 5 * (i : Int) + 1) (fun i => ((1 + 5 * (i : Int) + 2) % 3 == 0)) (fun i => ((1 + 5 * (i : Int) + 3) % 3 == 0)) (fun i => 1 + 5 * (i : Int) + 4) w' := by
  by_cases e : n = 0
  · subst e
    refine (w_markNfaEdgeS_nil a cap 1 w).mono ?_
    rintro e w' ⟨rfl, rfl⟩
    exact ⟨by simp, .inl ⟨rfl, rfl⟩, .inl rfl⟩
  · rcases h with h | ⟨rfl, h⟩
    · exact absurd h e
    · refine (w_markNfaEdgeS c n cap F0 F1 F2 F3 F4 1 w hl (by omega) (by omega) h).mono ?_
      rintro e' w' ⟨rfl, ho, hO⟩
      exact ⟨rfl, .inr ⟨e, ho⟩, .inr ⟨rfl, hO⟩⟩
set_option maxRecDepth 100000 in
set_option maxHeartbeats 800000 in
theorem w_markNfa (s en : Int) (a : Option Addr) (c n cap : Nat) (F0 F1 : Nat → Int) (F2 F3 : Nat → Bool) (F4 : Nat → Int) (w : World) (hl : n ≤ 1048576) (h : WrG a c n F0 F1 F2 F3 F4 w) (_hc : n ≠ 0 → c < w.heap.size) :
    Calls Try.prog 32 #[.agg #[.int .i64 s, .int .i64 0, .int .i64 en, .slice a n cap], .int .i64 1] w fun e w' => e = .returned (.int .i64 (1 + 5 * (n : Int))) ∧ (∃ w1, Below w.heap.size w w1 ∧ OnG c n w1 w') ∧ WrG a c n (fun i => 1 + 5 * (i : Int) + 0) (fun i => 1 + 5 * (i : Int) + 1) (fun i => ((1 + 5 * (i : Int) + 2) % 3 == 0)) (fun i => ((1 + 5 * (i : Int) + 3) % 3 == 0)) (fun i => 1 + 5 * (i : Int) + 4) w' := by
  have M := hide (fun w h => w_markG a c n cap F0 F1 F2 F3 F4 w hl h)
  clear hl
  go_enter Try.func32, Try.ntmps32
  go_wp2_with fail
  refine (M.out _ (h.below (below_box (Below.refl _ _)))).mono ?_
  rintro e w1 ⟨rfl, yy, Om⟩
  go_wp2_with fail
  go_ret
  exact ⟨rfl, ⟨_, below_box (Below.refl _ _), yy⟩, Om⟩
set_option maxRecDepth 100000 in
set_option maxHeartbeats 800000 in
theorem w_heldNfa (s en : Int) (a : Option Addr) (n cap : Nat) (w : World) (hl : n ≤ 1048576) (hR : RowNfaEdge a n (fun i => 1 + 5 * (i : Int) + 0) (fun i => 1 + 5 * (i : Int) + 1) (fun i => ((1 + 5 * (i : Int) + 2) % 3 == 0)) (fun i => ((1 + 5 * (i : Int) + 3) % 3 == 0)) (fun i => 1 + 5 * (i : Int) + 4) w) :
    Calls Try.prog 33 #[.agg #[.int .i64 s, .int .i64 0, .int .i64 en, .slice a n cap], .int .i64 1] w fun e w' => e = .returned (.int .i64 (1 + 5 * (n : Int))) ∧ Below w.heap.size w w' := by
  have HD := hide (fun w hR => w_heldNfaEdgeS a n cap 1 w hl (by omega) (by omega) hR)
  have k2 : ¬ (1 + 5 * (n : Int) < 0) := by omega
  clear hl
  go_enter Try.func33, Try.ntmps33
  go_wp2_with fail
  refine (HD.out _ (hR.below (below_box (Below.refl _ _)))).mono ?_
  rintro e w1 ⟨rfl, rfl⟩
  go_wp2_with fail
  go_ret
  exact ⟨rfl, below_box (Below.refl _ _)⟩
end Go.Proofs.Ytdbaonpkdcmglaa
