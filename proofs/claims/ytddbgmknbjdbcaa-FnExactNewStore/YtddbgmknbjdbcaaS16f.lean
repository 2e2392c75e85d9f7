/- NewStore of the specification. -/
import Derived.Test.YtddbgmknbjdbcaaNew16
namespace Go.Proofs.Ytddbgmknbjdbcaa
open Go.RowKit

set_option maxRecDepth 100000 in
set_option maxHeartbeats 1600000 in
theorem s_l16First (w : World) :
    Calls Try.prog 29 #[] w fun e w' => ∃ x, e = .returned (.slice (some ⟨x, 0, none⟩) 1 1) ∧ AnsF (some ⟨x, 0, none⟩) 1 (fun _ => lf16) (fun k => w.heap.size ≤ k) w' ∧ Below w.heap.size w w' := by
  have MS := (Mut.new w #[.string ⟨#[118, 101, 114, 115, 105, 111, 110]⟩] 9).alloc (.cells #[.slice (some ⟨w.heap.size, 0, none⟩) 1 1, .string ⟨#[48]⟩] 64)
  have ML := Mut.new (w.alloc (.cells #[.string ⟨#[118, 101, 114, 115, 105, 111, 110]⟩] 9)) #[.slice (some ⟨w.heap.size, 0, none⟩) 1 1, .string ⟨#[48]⟩] 64
  have d2 : Below w.heap.size w ((w.alloc (.cells #[.string ⟨#[118, 101, 114, 115, 105, 111, 110]⟩] 9)).alloc (.cells #[.slice (some ⟨w.heap.size, 0, none⟩) 1 1, .string ⟨#[48]⟩] 64)) := below_box2 (Below.refl _ _)
  simp only [World.size_alloc] at ML
  have RS : RowStr (some ⟨w.heap.size, 0, none⟩) 1 (fun _ => ⟨#[118, 101, 114, 115, 105, 111, 110]⟩) ((w.alloc (.cells #[.string ⟨#[118, 101, 114, 115, 105, 111, 110]⟩] 9)).alloc (.cells #[.slice (some ⟨w.heap.size, 0, none⟩) 1 1, .string ⟨#[48]⟩] 64)) := fun i hi => by
    obtain rfl : i = 0 := by omega
    exact ⟨_, 0, rfl, MS.1, MS.2.1 0 _ rfl⟩
  have RF : RowF true (some ⟨w.heap.size + 1, 0, none⟩) 1 (fun _ => lf16) ((w.alloc (.cells #[.string ⟨#[118, 101, 114, 115, 105, 111, 110]⟩] 9)).alloc (.cells #[.slice (some ⟨w.heap.size, 0, none⟩) 1 1, .string ⟨#[48]⟩] 64)) := fun i hi => by
    obtain rfl : i = 0 := by omega
    exact ⟨_, 0, _, 1, rfl, ML.1, ML.2.1 0 _ rfl, ML.2.1 1 _ rfl, fun _ => Nat.le_refl _, RS⟩

  go_enter Try.func29, Try.ntmps29
  have AF : AnsF (some ⟨w.heap.size + 1, 0, none⟩) 1 (fun _ => lf16) (fun k => w.heap.size ≤ k) ((w.alloc (.cells #[.string ⟨#[118, 101, 114, 115, 105, 111, 110]⟩] 9)).alloc (.cells #[.slice (some ⟨w.heap.size, 0, none⟩) 1 1, .string ⟨#[48]⟩] 64)) := by
    refine ⟨RF, .inr ⟨_, fun _ => w.heap.size, fun _ => 1, rfl, fun i hi => ?_, fun i hi => ?_, fun k hk => ?_⟩⟩
    · obtain rfl : i = 0 := by omega
      refine ⟨⟨ML.1, fun j v hv => by rw [Nat.zero_mul, Nat.zero_add]; exact ML.2.1 j v hv, fun j hj => by rw [Nat.zero_mul, Nat.zero_add]; exact ML.2.2 j hj⟩, Nat.le_refl _, MS.1, fun j hj => ?_⟩
      have hj : j < 1 := hj
      obtain rfl : j = 0 := by omega
      exact ⟨⟨_, MS.2.1 0 _ rfl, fun _ => rfl⟩, MS.2.2 0 (by simp)⟩
    · exact ⟨by simp, fun j hj hne => by omega⟩
    · rcases hk with rfl | ⟨i, hi, rfl⟩
      · exact Nat.le_succ _
      · exact Nat.le_refl _
  go_wp2_with fail
  go_ret
  exact ⟨_, rfl, AF, d2⟩
set_option maxRecDepth 100000 in
set_option maxHeartbeats 1600000 in
theorem s_newStore (w : World) :
    Calls Try.prog 8 #[] w fun e w' => ∃ v, e = .returned v ∧ RowSt true v st16 w' ∧ Below w.heap.size w w' := by
  have F1 := hide (fun w => s_l16First w)
  have M0 := Mut.new w #[.slice none 0 0, .slice none 0 0, .slice none 0 0, .int .i64 0] 25
  have d0 : Below w.heap.size w (w.alloc (.cells #[.slice none 0 0, .slice none 0 0, .slice none 0 0, .int .i64 0] 25)) := below_box (Below.refl _ _)
  go_enter Try.func8, Try.ntmps8
  go_wp2_with fail
  generalize w.alloc (.cells #[.slice none 0 0, .slice none 0 0, .slice none 0 0, .int .i64 0] 25) = w0 at *
  refine (F1.out _).mono ?_
  rintro e w1 ⟨x1, rfl, R1, bb⟩
  replace R1 := R1.mono (Q := fun k => w.heap.size < k) (fun x hx => Nat.lt_of_lt_of_le M0.1 hx)
  replace M0 := M0.below bb
  have d1 := d0.trans (bb.mono d0.size)
  clear bb d0
  go_wp2_with fail
  refine (F1.out _).mono ?_
  rintro e w2 ⟨x2, rfl, R2, bb⟩
  replace R2 := R2.mono (Q := fun k => w.heap.size < k) (fun x hx => Nat.lt_of_lt_of_le M0.1 hx)
  replace M0 := M0.below bb
  replace R1 := R1.below bb
  have d2 := d1.trans (bb.mono d1.size)
  clear bb d1
  go_wp2_with fail
  refine (F1.out _).mono ?_
  rintro e w3 ⟨x3, rfl, R3, bb⟩
  replace R3 := R3.mono (Q := fun k => w.heap.size < k) (fun x hx => Nat.lt_of_lt_of_le M0.1 hx)
  replace M0 := M0.below bb
  replace R1 := R1.below bb
  replace R2 := R2.below bb
  have d3 := d2.trans (bb.mono d2.size)
  clear bb d2
  have bb : Below w3.heap.size w3 (w3.alloc (.cells #[.slice (some ⟨x3, 0, none⟩) 1 1] 22)) := below_box (Below.refl _ _)
  have MH := Mut.new w3 #[.slice (some ⟨x3, 0, none⟩) 1 1] 22
  have hw3 : w.heap.size < w3.heap.size := M0.1
  replace M0 := M0.below bb
  replace R1 := R1.below bb
  replace R2 := R2.below bb
  replace R3 := R3.below bb
  have d4 := d3.trans (bb.mono d3.size)
  clear bb d3 F1
  go_wp2_with (refine wpList_storeM (us := [.slice (some ⟨x1, 0, none⟩) 1 1, .slice (some ⟨x2, 0, none⟩) 1 1, .slice (some ⟨w3.heap.size, 0, none⟩) 1 1, .int .i64 0]) rfl rfl rfl rfl M0 rfl (by intro v hv; simp only [List.mem_cons, List.not_mem_nil, or_false] at hv; rcases hv with rfl | rfl | rfl | rfl <;> rfl) sizeSto ?_; intro w9 M9 o9)
  have on := OnlyP.of_only (P := fun x => x = w.heap.size) o9 rfl
  have r0 := M9.2.1 0 _ rfl
  have r1 := M9.2.1 1 _ rfl
  have r2 := M9.2.1 2 _ rfl
  have r3 := M9.2.1 3 _ rfl
  have d9 := d4.trans (on.below (base := w.heap.size) (fun x _ hx => by omega) d4.size)
  replace R1 := R1.onlyP on (fun x h1 e => by omega)
  replace R2 := R2.onlyP on (fun x h1 e => by omega)
  replace R3 := R3.onlyP on (fun x h1 e => by omega)
  replace MH := MH.onlyP on (by omega)
  have RX : RowX true (some ⟨w3.heap.size, 0, none⟩) 1 (fun _ => c16) w9 := fun i hi => by
    obtain rfl : i = 0 := by omega
    exact ⟨_, 0, _, 1, rfl, MH.1, MH.2.1 0 _ rfl, R3.1⟩
  refine bodyPost_ret (v := stV st16 (some ⟨x1, 0, none⟩) 1 (some ⟨x2, 0, none⟩) 1 (some ⟨w3.heap.size, 0, none⟩) 1) (by simp [results, Try.results8, go_sem, stV, st16, c16, r0, r1, r2, r3]) rfl ⟨_, rfl, ⟨_, _, _, _, _, _, rfl, R1.1, R2.1, RX, Nat.le_refl _⟩, d9⟩
end Go.Proofs.Ytddbgmknbjdbcaa
