/- What is said of readers as answers; NewReader. -/
import Derived.Test.YtoeephmdklmpfaaLaw5r
namespace Go.Proofs.Ytoeephmdklmpfaa
open Go.RowKit

/-- A reader as an answer: its list is its own. -/
def AnsR (X : ByteArray) (L : List Ms) (B : Int) (w : World) (v : Value) (w' : World) : Prop := ∃ a cap c, v = .agg #[.string X, .slice a L.length cap, .int .i64 B] ∧ (L ≠ [] → w.heap.size ≤ c) ∧ WrM a c L w' ∧ Below w.heap.size w w'
theorem WrM.one {w : World} {c : Nat} {m : Ms} (hc : c < w.heap.size) (h0 : w.cell? ⟨c, 0, none⟩ = some (.int .i64 m.1)) (h1 : w.cell? ⟨c, 1, none⟩ = some (.string m.2)) (f0 : w.frozen? ⟨c, 0, none⟩ = false) (f1 : w.frozen? ⟨c, 1, none⟩ = false) : WrM (some ⟨c, 0, none⟩) c [m] w := by
  refine ⟨fun _ => ⟨rfl, hc⟩, fun i hi => ?_⟩
  have : i = 0 := by simpa using hi
  subst this
  exact ⟨⟨h0, h1⟩, f0, f1⟩
set_option maxRecDepth 100000 in
set_option maxHeartbeats 800000 in
theorem s_newReader (w : World) : Calls Try.prog 31 #[] w fun e w' => ∃ v, e = .returned v ∧ AnsR ByteArray.empty [(4, ByteArray.empty)] 0 w v w' := by
  go_enter Try.func31, Try.ntmps31
  go_wp2_with fail
  have hW : WrM (some ⟨w.heap.size + 1, 0, none⟩) (w.heap.size + 1) [((4 : Int), ByteArray.empty)] ((w.alloc (.cells #[.string ⟨#[]⟩, .slice (some ⟨w.heap.size + 1, 0, none⟩) 1 1, .int .i64 0] 48)).alloc (.cells #[.int .i64 4, .string ⟨#[]⟩] 37)) := WrM.one (by simp) (by simp [go_sem]) (by simp [go_sem]; rfl) (by simp [go_sem]) (by simp [go_sem])
  exact bodyPost_ret (v := .agg #[.string ByteArray.empty, .slice (some ⟨w.heap.size + 1, 0, none⟩) 1 1, .int .i64 0]) (by simp [results, Try.results31, go_sem] <;> rfl) rfl ⟨_, rfl, some ⟨w.heap.size + 1, 0, none⟩, 1, w.heap.size + 1, rfl, fun _ => by omega, hW, below_box2 (Below.refl _ _)⟩
set_option maxRecDepth 100000 in
set_option maxHeartbeats 800000 in
theorem i_newReader (w : World) : Calls Try.prog 32 #[] w fun e w' => ∃ v, e = .returned v ∧ AnsR ByteArray.empty [(4, ByteArray.empty)] 0 w v w' := by
  go_enter Try.func32, Try.ntmps32
  go_wp2_with fail
  have hW : WrM (some ⟨w.heap.size + 1, 0, none⟩) (w.heap.size + 1) [((4 : Int), ByteArray.empty)] ((w.alloc (.cells #[.string ⟨#[]⟩, .slice (some ⟨w.heap.size + 1, 0, none⟩) 1 1, .int .i64 0] 48)).alloc (.cells #[.int .i64 4, .string ⟨#[]⟩] 37)) := WrM.one (by simp) (by simp [go_sem]) (by simp [go_sem]; rfl) (by simp [go_sem]) (by simp [go_sem])
  exact bodyPost_ret (v := .agg #[.string ByteArray.empty, .slice (some ⟨w.heap.size + 1, 0, none⟩) 1 1, .int .i64 0]) (by simp [results, Try.results32, go_sem] <;> rfl) rfl ⟨_, rfl, some ⟨w.heap.size + 1, 0, none⟩, 1, w.heap.size + 1, rfl, fun _ => by omega, hW, below_box2 (Below.refl _ _)⟩
end Go.Proofs.Ytoeephmdklmpfaa
