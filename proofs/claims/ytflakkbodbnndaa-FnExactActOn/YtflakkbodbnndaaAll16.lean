/- ActOn of the program, a kind that there is not. -/
import Derived.Test.YtflakkbodbnndaaAll15
import Derived.Test.YtflakkbodbnndaaI7a
import Derived.Test.YtflakkbodbnndaaAll12
import Derived.Deep.RegionHeld3
/- What ActOn of the program answers. -/
namespace Go.Proofs.Ytflakkbodbnndaa
open Go.RowKit

def AiP (k n : Int) (t : Ro) (w : World) (e : Ending) (w' : World) : Prop := Below w.heap.size w w' ∧ ((aoB k n t = true ∧ ∃ p pc q qc, e = .returned (.tuple #[.agg #[.int .i64 (doR k n t).pa, .int .i64 (doR k n t).pl, .int .i64 (doR k n t).o, .slice (some ⟨p, 0, none⟩) (doR k n t).n0 pc, .int .i64 (doR k n t).nx, .int .i64 (doR k n t).md, .int .i64 (doR k n t).pf, .slice (some ⟨q, 0, none⟩) (doR k n t).n1 qc], .bool true]) ∧ w.heap.size ≤ p ∧ w.heap.size ≤ q ∧ p ≠ q ∧ OutInt p (doR k n t).n0 (doR k n t).n0 (doR k n t).f w' ∧ OutInt q (doR k n t).n1 (doR k n t).n1 (doR k n t).g w') ∨ (aoB k n t = false ∧ e = .returned (.tuple #[.agg #[.int .i64 0, .int .i64 0, .int .i64 0, .slice none 0 0, .int .i64 0, .int .i64 0, .int .i64 0, .slice none 0 0], .bool false])))
end Go.Proofs.Ytflakkbodbnndaa

namespace Go.Proofs.Ytflakkbodbnndaa
open Go.RowKit

set_option maxRecDepth 100000 in
set_option maxHeartbeats 3200000 in
theorem i_actOn0 (k n : Int) (hk : ¬ (1 ≤ k ∧ k ≤ 5)) (t : Ro) (x0 f0 c0 x1 f1 c1 : Nat) (w : World) :
    Calls Try.prog 9 #[.agg #[.int .i64 k, .int .i64 n], .agg #[.int .i64 t.pa, .int .i64 t.pl, .int .i64 t.o, .slice (some ⟨x0, f0, none⟩) t.n0 c0, .int .i64 t.nx, .int .i64 t.md, .int .i64 t.pf, .slice (some ⟨x1, f1, none⟩) t.n1 c1]] w (AiP k n t w) := by
  have DE := hide (fun w => i_deedNo k hk w)
  have d1 : Below w.heap.size w (((w.alloc (.cells #[.int .i64 k, .int .i64 n] 38)).alloc (.cells #[.int .i64 t.pa, .int .i64 t.pl, .int .i64 t.o, .slice (some ⟨x0, f0, none⟩) t.n0 c0, .int .i64 t.nx, .int .i64 t.md, .int .i64 t.pf, .slice (some ⟨x1, f1, none⟩) t.n1 c1] 35)).alloc (.cells #[.int .i64 0, .int .i64 0, .int .i64 0, .slice none 0 0, .int .i64 0, .int .i64 0, .int .i64 0, .slice none 0 0] 35)) := below_box3 (Below.refl _ _)
  have M3 := Mut.new ((w.alloc (.cells #[.int .i64 k, .int .i64 n] 38)).alloc (.cells #[.int .i64 t.pa, .int .i64 t.pl, .int .i64 t.o, .slice (some ⟨x0, f0, none⟩) t.n0 c0, .int .i64 t.nx, .int .i64 t.md, .int .i64 t.pf, .slice (some ⟨x1, f1, none⟩) t.n1 c1] 35)) #[.int .i64 0, .int .i64 0, .int .i64 0, .slice none 0 0, .int .i64 0, .int .i64 0, .int .i64 0, .slice none 0 0] 35
  simp only [World.size_alloc] at M3
  have hN : aoB k n t = false := by unfold aoB; rw [acOk_no hk]; rfl
  clear hk
  go_enter Try.func9, Try.ntmps9
  go_wp2_with fail
  generalize (((w.alloc (.cells #[.int .i64 k, .int .i64 n] 38)).alloc (.cells #[.int .i64 t.pa, .int .i64 t.pl, .int .i64 t.o, .slice (some ⟨x0, f0, none⟩) t.n0 c0, .int .i64 t.nx, .int .i64 t.md, .int .i64 t.pf, .slice (some ⟨x1, f1, none⟩) t.n1 c1] 35)).alloc (.cells #[.int .i64 0, .int .i64 0, .int .i64 0, .slice none 0 0, .int .i64 0, .int .i64 0, .int .i64 0, .slice none 0 0] 35)) = w1 at *
  refine (DE.out _).mono ?_
  rintro e w2 ⟨rfl, b2⟩
  have d2 := d1.trans (b2.mono d1.size)
  have M3 := M3.below b2
  have lt3 := M3.1
  clear b2
  go_wp2_with (first | (refine wpList_storeM (us := [.nilFunc, .nilFunc]) rfl rfl rfl rfl (Mut.new _ _ _) rfl (by intro v hv; simp only [List.mem_cons, List.not_mem_nil, or_false] at hv; rcases hv with rfl | rfl <;> rfl) sizeDeed ?_; intro w3 MD oD; have M3 := (M3.alloc _).only oD (by omega); have d3 : Below w.heap.size w w3 := (d2.alloc d2.size _).trans ((oD.below (by simp)).mono d2.size)) | (refine wpList_storeM (us := [.int .i64 0, .int .i64 0, .int .i64 0, .slice none 0 0, .int .i64 0, .int .i64 0, .int .i64 0, .slice none 0 0]) rfl rfl rfl rfl M3 rfl (by intro v hv; simp only [List.mem_cons, List.not_mem_nil, or_false] at hv; rcases hv with rfl | rfl | rfl | rfl | rfl | rfl | rfl | rfl <;> rfl) sizeRt7 ?_; intro wF MF oF))
  have r_0 := MF.2.1 0 _ rfl
  have r_1 := MF.2.1 1 _ rfl
  have r_2 := MF.2.1 2 _ rfl
  have r_3 := MF.2.1 3 _ rfl
  have r_4 := MF.2.1 4 _ rfl
  have r_5 := MF.2.1 5 _ rfl
  have r_6 := MF.2.1 6 _ rfl
  have r_7 := MF.2.1 7 _ rfl
  have DF := d3.trans (oF.below_of (by omega) d3.size)
  refine bodyPost_ret (v := .tuple #[.agg #[.int .i64 0, .int .i64 0, .int .i64 0, .slice none 0 0, .int .i64 0, .int .i64 0, .int .i64 0, .slice none 0 0], .bool false]) (by simp [results, Try.results9, go_sem, r_0, r_1, r_2, r_3, r_4, r_5, r_6, r_7]) rfl ⟨DF, .inr ⟨hN, rfl⟩⟩
end Go.Proofs.Ytflakkbodbnndaa
