/- Six times no way, of the specification. -/
import Derived.Test.YtelehmkmdbhcfaaAll4
import Derived.Test.YtelehmkmdbhcfaaMemN
namespace Go.Proofs.Ytelehmkmdbhcfaa
open Go.RowKit

theorem srcN1 (w : World) (v : Int) (t : TypeId) : SrcN .i64 (some ⟨w.heap.size, 0, none⟩) [v] 1 (w.alloc (.cells #[.int .i64 v] t)) :=
  ⟨fun i hi => by
    have : i = 0 := by simpa using hi
    subst this
    exact ⟨w.heap.size, 0, rfl, by simp, by simp [go_sem]⟩, .inr ⟨_, _, rfl⟩⟩
/-- A list of numbers of one's own that is not empty, as a row that may be written. -/
theorem ownN_outInt {e : TypeId} {w : World} {base : Nat} {v : Value} {L : List Int} (h : OwnN e .i64 base v L w) (h0 : L ≠ []) : ∃ g cap, v = .slice (some ⟨g, 0, none⟩) L.length cap ∧ base ≤ g ∧ L.length ≤ cap ∧ OutInt g L.length L.length (fun i => L.getD i 0) w := by
  obtain ⟨g, cap, rfl, hb, hg⟩ := ownN_shape h h0
  have hc : L.length ≤ cap := by
    rcases h.2 with ⟨he, _⟩ | ⟨g', cap', cur, he, _, _, hc, _⟩
    · simp at he
    · simp at he
      obtain ⟨_, rfl⟩ := he
      exact hc
  refine ⟨g, cap, rfl, hb, hc, hg, fun i hi => ⟨⟨_, ownN_at h hi, fun _ => rfl⟩, World.ownsRow.frozenAt (show w.ownsRow base e 1 (.slice (some ⟨g, 0, none⟩) L.length cap) L.length (ncells .i64 L) from h) i⟩⟩
theorem rep_getD {n i : Nat} {x d : Int} (h : i < n) : (List.replicate n x).getD i d = x := by
  rw [List.getD_eq_getElem?_getD, List.getElem?_replicate, if_pos h]
  rfl
set_option maxRecDepth 100000 in
set_option maxHeartbeats 1600000 in
theorem s_none9 (g : Int) (a : Option Addr) (m c : Nat) (w : World) (hg : 2 ≤ g) (hg' : g ≤ 12) :
    Calls Try.prog 20 #[.agg #[.int .i64 g, .slice a m c]] w fun e w' => ∃ q cap, e = .returned (.slice (some ⟨q, 0, none⟩) 6 cap) ∧ w.heap.size ≤ q ∧ OutInt q 6 6 (fun _ => g - 1) w' ∧ Below w.heap.size w w' := by
  have MX := Mut.new w #[.int .i64 g, .slice a m c] 31
  have dX : Below w.heap.size w (w.alloc (.cells #[.int .i64 g, .slice a m c] 31)) := below_box (Below.refl _ _)
  go_enter Try.func20, Try.ntmps20
  go_wp2_with fail
  generalize w.alloc (.cells #[.int .i64 g, .slice a m c] 31) = wx at *
  have hx1 : w.heap.size < wx.heap.size := MX.1
  generalize hb0 : w.heap.size = b0 at *
  go_loopw [3, 4] (fun t x wr => ∃ k : Nat, k ≤ 6 ∧ x = .int .i64 k ∧ OwnN 3 .i64 (b0 + 1) t (List.replicate k (g - 1)) wr ∧ Below b0 w wr ∧ Mut wr b0 [.int .i64 g, .slice a m c] ∧ b0 + 1 ≤ wr.heap.size) (fun _ x _ => 6 - (intOf x).toNat)
  case atStart => exact ⟨0, by omega, rfl, ownN_nil _ _ _ _, dX, MX, hx1⟩
  case round =>
    clear dX MX hx1
    obtain ⟨k, hk, rfl, own, dX, MX, hsz⟩ := hrel
    by_cases hlt : k < 6
    · have hlt' : (k : Int) < 6 := by omega
      have c0 := MX.2.1 0 _ rfl
      have dA : Below wr.heap.size wr (wr.alloc (.cells #[.int .i64 (g - 1)] 3)) := below_box (Below.refl _ _)
      have ownA := ownN_below own dA
      have hsrc := srcN1 wr (g - 1) 3
      have hbs : b0 + 1 ≤ (wr.alloc (.cells #[.int .i64 (g - 1)] 3)).heap.size := Nat.le_trans hsz dA.size
      have hLL : Hid ((List.replicate k (g - 1)).length + [g - 1].length ≤ 8589934593) := by show _ ≤ _; simp; omega
      have MA := MX.below dA
      have d1 := dX.trans (dA.mono (by omega))
      generalize hL : List.replicate k (g - 1) = L at *
      have hL9 := hide hL
      clear hL own dA MX
      go_wp2_with (first | (at_builtin; refine wpList_appN numInt rfl _ _ rfl (b0 + 1) _ L rfl ownA _ [g - 1] 1 1 rfl rfl hsrc hLL.out (by decide) hbs ?_; intro v4 w4 own4 b4 _ _))
      have M4 := MA.base (by omega) b4
      have d4 := d1.trans (b4.mono (by omega))
      exact ⟨⟨k + 1, by omega, by go_num, by rw [List.replicate_succ', hL9.out]; exact own4, d4, M4, Nat.le_trans hbs b4.size⟩, by simp [intOf]; omega⟩
    · obtain rfl : k = 6 := by omega
      have hlt' : ¬ ((6 : Int) < 6) := by omega
      obtain ⟨q, cap, rfl, hq, _, hO⟩ := ownN_outInt own (by simp)
      go_wp2_with fail
      go_ret
      have hO' : OutInt q 6 6 (fun _ => g - 1) wr := by
        refine ⟨hO.1, fun i hi => ?_⟩
        obtain ⟨⟨x, h1, h2⟩, h3⟩ := hO.2 i (by simpa using hi)
        refine ⟨⟨x, h1, fun _ => ?_⟩, h3⟩
        rw [h2 (by simpa using hi)]
        exact rep_getD hi
      exact ⟨q, ⟨cap, rfl⟩, by omega, hO', dX⟩
end Go.Proofs.Ytelehmkmdbhcfaa
