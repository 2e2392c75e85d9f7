/- Attrs marked and looked at again; lists of numbers of one's own as rows that may be written. -/
import Derived.Test.YtjjdfniemlcnnaaFlatAttrs
import Derived.Test.YtjjdfniemlcnnaaMemN
namespace Go.Proofs.Ytjjdfniemlcnnaa
open Go.RowKit

theorem RowN.int {a : Option Addr} {L : List Int} {w : World} (h : RowN .i64 a L w) : RowInt a L.length (fun i => L.getD i 0) w := h
theorem RowInt.rowN {a : Option Addr} {n : Nat} {f : Nat → Int} {w : World} (h : RowInt a n f w) : RowN .i64 a ((List.range n).map f) w := by
  intro i hi
  simp only [List.length_map, List.length_range] at hi
  have e : ((List.range n).map f).getD i 0 = f i := by simp [List.getD_eq_getElem?_getD, hi]
  rw [e]
  exact h i hi
theorem ownN_out {e : TypeId} {w : World} {base g cap : Nat} {L : List Int} (h : OwnN e .i64 base (.slice (some ⟨g, 0, none⟩) L.length cap) L w) : OutInt g L.length L.length (fun i => L.getD i 0) w := by
  have hg : g < w.heap.size := by
    rcases h.2 with ⟨h1, _⟩ | ⟨g', cap', cur, h1, _, h3, _⟩
    · simp at h1
    · simp at h1
      rw [h1.1]
      exact (Array.getElem?_eq_some_iff.1 h3).1
  refine ⟨hg, fun i hi => ⟨⟨_, ownN_at h hi, fun _ => rfl⟩, ?_⟩⟩
  exact World.ownsRow.frozenAt (show w.ownsRow base e 1 (.slice (some ⟨g, 0, none⟩) L.length cap) L.length (ncells .i64 L) from h) i
theorem OutInt.congr {c n k : Nat} {f g : Nat → Int} {w : World} (h : OutInt c n k f w) (e : ∀ i, i < n → f i = g i) : OutInt c n k g w := by
  refine ⟨h.1, fun i hi => ?_⟩
  obtain ⟨⟨x, h0, hk⟩, z0⟩ := h.2 i hi
  exact ⟨⟨x, h0, fun h => (hk h).trans (e i hi)⟩, z0⟩

set_option maxRecDepth 100000 in
set_option maxHeartbeats 1600000 in
theorem w_markAttrs (o nx md pf : Int) (x n0 c0 : Nat) (f : Nat → Int) (y n1 c1 : Nat) (g : Nat → Int) (w : World) (h0 : n0 ≤ 1048576) (h1 : n1 ≤ 1048576) (hn : x ≠ y) (O0 : OutInt x n0 n0 f w) (O1 : OutInt y n1 n1 g w) :
    Calls Try.prog 54 #[.agg #[.int .i64 o, .slice (some ⟨x, 0, none⟩) n0 c0, .int .i64 nx, .int .i64 md, .int .i64 pf, .slice (some ⟨y, 0, none⟩) n1 c1], .int .i64 1] w fun e w' => e = .returned (.int .i64 (1 + (n0 : Int) + (n1 : Int))) ∧
      OutInt x n0 n0 (fun i => 1 + (i : Int)) w' ∧ OutInt y n1 n1 (fun i => 1 + (n0 : Int) + (i : Int)) w' ∧ ∃ u, Only x w u ∧ Only y u w' := by
  have s0 := hide (fun w O => w_markIntS x n0 c0 f 1 w (by omega) (by omega) (by omega) O)
  have s1 := hide (fun w O => w_markIntS y n1 c1 g (1 + (n0 : Int)) w (by omega) (by omega) (by omega) O)
  have b0 : (1 : Int) + (n0 : Int) ≤ 1048577 := by omega
  have M := Mut.new w #[.int .i64 o, .slice (some ⟨x, 0, none⟩) n0 c0, .int .i64 nx, .int .i64 md, .int .i64 pf, .slice (some ⟨y, 0, none⟩) n1 c1] 47
  have d : Only x w (w.alloc (.cells #[.int .i64 o, .slice (some ⟨x, 0, none⟩) n0 c0, .int .i64 nx, .int .i64 md, .int .i64 pf, .slice (some ⟨y, 0, none⟩) n1 c1] 47)) := (Only.refl x w).alloc _
  have hx := O0.1
  have hy := O1.1
  have O0 := O0.below (below_box (Below.refl (w.alloc (.cells #[.int .i64 o, .slice (some ⟨x, 0, none⟩) n0 c0, .int .i64 nx, .int .i64 md, .int .i64 pf, .slice (some ⟨y, 0, none⟩) n1 c1] 47)).heap.size (w.alloc (.cells #[.int .i64 o, .slice (some ⟨x, 0, none⟩) n0 c0, .int .i64 nx, .int .i64 md, .int .i64 pf, .slice (some ⟨y, 0, none⟩) n1 c1] 47))))
  have O1 := O1.below (below_box (Below.refl (w.alloc (.cells #[.int .i64 o, .slice (some ⟨x, 0, none⟩) n0 c0, .int .i64 nx, .int .i64 md, .int .i64 pf, .slice (some ⟨y, 0, none⟩) n1 c1] 47)).heap.size (w.alloc (.cells #[.int .i64 o, .slice (some ⟨x, 0, none⟩) n0 c0, .int .i64 nx, .int .i64 md, .int .i64 pf, .slice (some ⟨y, 0, none⟩) n1 c1] 47))))
  clear h0 h1
  go_enter Try.func54, Try.ntmps54
  go_wp2_with fail
  generalize w.alloc (.cells #[.int .i64 o, .slice (some ⟨x, 0, none⟩) n0 c0, .int .i64 nx, .int .i64 md, .int .i64 pf, .slice (some ⟨y, 0, none⟩) n1 c1] 47) = w1 at *
  refine (s0.out _ O0).mono ?_
  rintro e w2 ⟨rfl, o2, P0⟩
  have O1 := O1.only o2 (by omega)
  have M := M.only o2 (by omega)
  have u5 := M.2.1 5 _ rfl
  go_wp2_with fail
  refine (s1.out _ O1).mono ?_
  rintro e w3 ⟨rfl, o3, P1⟩
  go_wp2_with fail
  go_ret
  exact ⟨rfl, P0.only o3 hn, P1, w2, d.trans o2, o3⟩
set_option maxRecDepth 100000 in
set_option maxHeartbeats 1600000 in
theorem w_heldAttrs (o nx md pf : Int) (a0 : Option Addr) (n0 c0 : Nat) (a1 : Option Addr) (n1 c1 : Nat) (w : World) (h0 : n0 ≤ 1048576) (h1 : n1 ≤ 1048576) (R0 : RowInt a0 n0 (fun i => 1 + (i : Int)) w) (R1 : RowInt a1 n1 (fun i => 1 + (n0 : Int) + (i : Int)) w) :
    Calls Try.prog 55 #[.agg #[.int .i64 o, .slice a0 n0 c0, .int .i64 nx, .int .i64 md, .int .i64 pf, .slice a1 n1 c1], .int .i64 1] w fun e w' => e = .returned (.int .i64 (1 + (n0 : Int) + (n1 : Int))) ∧ Below w.heap.size w w' := by
  have s0 := hide (fun w R => w_heldIntS a0 n0 c0 1 w (by omega) (by omega) (by omega) R)
  have s1 := hide (fun w R => w_heldIntS a1 n1 c1 (1 + (n0 : Int)) w (by omega) (by omega) (by omega) R)
  have q0 : ¬ ((1 : Int) + (n0 : Int) < 0) := by omega
  have q1 : ¬ ((1 : Int) + (n0 : Int) + (n1 : Int) < 0) := by omega
  clear h0 h1
  have d : Below w.heap.size w (w.alloc (.cells #[.int .i64 o, .slice a0 n0 c0, .int .i64 nx, .int .i64 md, .int .i64 pf, .slice a1 n1 c1] 47)) := below_box (Below.refl _ _)
  go_enter Try.func55, Try.ntmps55
  go_wp2_with fail
  refine (s0.out _ (R0.below d)).mono ?_
  rintro e w2 ⟨rfl, rfl⟩
  go_wp2_with fail
  refine (s1.out _ (R1.below d)).mono ?_
  rintro e w3 ⟨rfl, rfl⟩
  go_wp2_with fail
  go_ret
  exact ⟨rfl, d⟩
end Go.Proofs.Ytjjdfniemlcnnaa
