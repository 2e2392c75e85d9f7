/- NewStore of the program. -/
import Derived.Test.YtddbgmknbjdbcaaNew16
import Derived.Test.YtddbgmknbjdbcaaI16e
namespace Go.Proofs.Ytddbgmknbjdbcaa
open Go.RowKit

set_option maxRecDepth 100000 in
set_option maxHeartbeats 1600000 in
theorem i_firstStore (w : World) :
    Calls Try.prog 31 #[] w fun e w' => ∃ v, e = .returned v ∧ RowSt true v st16 w' ∧ Below w.heap.size w w' := by
  have M0 := (((Mut.new w #[.slice (some ⟨w.heap.size + 1 + 1, 0, none⟩) 1 1, .slice (some ⟨w.heap.size + 1 + 1, 0, none⟩) 1 1, .slice (some ⟨w.heap.size + 1 + 1 + 1, 0, none⟩) 1 1, .int .i64 0] 25).alloc (.cells #[.string ⟨#[118, 101, 114, 115, 105, 111, 110]⟩] 9)).alloc (.cells #[.slice (some ⟨w.heap.size + 1, 0, none⟩) 1 1, .string ⟨#[48]⟩] 64)).alloc (.cells #[.slice (some ⟨w.heap.size + 1 + 1, 0, none⟩) 1 1] 22)
  have MS := ((Mut.new (w.alloc (.cells #[.slice (some ⟨w.heap.size + 1 + 1, 0, none⟩) 1 1, .slice (some ⟨w.heap.size + 1 + 1, 0, none⟩) 1 1, .slice (some ⟨w.heap.size + 1 + 1 + 1, 0, none⟩) 1 1, .int .i64 0] 25)) #[.string ⟨#[118, 101, 114, 115, 105, 111, 110]⟩] 9).alloc (.cells #[.slice (some ⟨w.heap.size + 1, 0, none⟩) 1 1, .string ⟨#[48]⟩] 64)).alloc (.cells #[.slice (some ⟨w.heap.size + 1 + 1, 0, none⟩) 1 1] 22)
  have ML := (Mut.new ((w.alloc (.cells #[.slice (some ⟨w.heap.size + 1 + 1, 0, none⟩) 1 1, .slice (some ⟨w.heap.size + 1 + 1, 0, none⟩) 1 1, .slice (some ⟨w.heap.size + 1 + 1 + 1, 0, none⟩) 1 1, .int .i64 0] 25)).alloc (.cells #[.string ⟨#[118, 101, 114, 115, 105, 111, 110]⟩] 9)) #[.slice (some ⟨w.heap.size + 1, 0, none⟩) 1 1, .string ⟨#[48]⟩] 64).alloc (.cells #[.slice (some ⟨w.heap.size + 1 + 1, 0, none⟩) 1 1] 22)
  have MH := Mut.new (((w.alloc (.cells #[.slice (some ⟨w.heap.size + 1 + 1, 0, none⟩) 1 1, .slice (some ⟨w.heap.size + 1 + 1, 0, none⟩) 1 1, .slice (some ⟨w.heap.size + 1 + 1 + 1, 0, none⟩) 1 1, .int .i64 0] 25)).alloc (.cells #[.string ⟨#[118, 101, 114, 115, 105, 111, 110]⟩] 9)).alloc (.cells #[.slice (some ⟨w.heap.size + 1, 0, none⟩) 1 1, .string ⟨#[48]⟩] 64)) #[.slice (some ⟨w.heap.size + 1 + 1, 0, none⟩) 1 1] 22
  have d4 : Below w.heap.size w ((((w.alloc (.cells #[.slice (some ⟨w.heap.size + 1 + 1, 0, none⟩) 1 1, .slice (some ⟨w.heap.size + 1 + 1, 0, none⟩) 1 1, .slice (some ⟨w.heap.size + 1 + 1 + 1, 0, none⟩) 1 1, .int .i64 0] 25)).alloc (.cells #[.string ⟨#[118, 101, 114, 115, 105, 111, 110]⟩] 9)).alloc (.cells #[.slice (some ⟨w.heap.size + 1, 0, none⟩) 1 1, .string ⟨#[48]⟩] 64)).alloc (.cells #[.slice (some ⟨w.heap.size + 1 + 1, 0, none⟩) 1 1] 22)) := below_box3 (below_box (Below.refl _ _))
  simp only [World.size_alloc] at MS ML MH
  have r0 := M0.2.1 0 _ rfl
  have r1 := M0.2.1 1 _ rfl
  have r2 := M0.2.1 2 _ rfl
  have r3 := M0.2.1 3 _ rfl
  have RS : RowStr (some ⟨w.heap.size + 1, 0, none⟩) 1 (fun _ => ⟨#[118, 101, 114, 115, 105, 111, 110]⟩) ((((w.alloc (.cells #[.slice (some ⟨w.heap.size + 1 + 1, 0, none⟩) 1 1, .slice (some ⟨w.heap.size + 1 + 1, 0, none⟩) 1 1, .slice (some ⟨w.heap.size + 1 + 1 + 1, 0, none⟩) 1 1, .int .i64 0] 25)).alloc (.cells #[.string ⟨#[118, 101, 114, 115, 105, 111, 110]⟩] 9)).alloc (.cells #[.slice (some ⟨w.heap.size + 1, 0, none⟩) 1 1, .string ⟨#[48]⟩] 64)).alloc (.cells #[.slice (some ⟨w.heap.size + 1 + 1, 0, none⟩) 1 1] 22)) := fun i hi => by
    obtain rfl : i = 0 := by omega
    exact ⟨_, 0, rfl, MS.1, MS.2.1 0 _ rfl⟩
  have RF : RowF true (some ⟨w.heap.size + 1 + 1, 0, none⟩) 1 (fun _ => lf16) ((((w.alloc (.cells #[.slice (some ⟨w.heap.size + 1 + 1, 0, none⟩) 1 1, .slice (some ⟨w.heap.size + 1 + 1, 0, none⟩) 1 1, .slice (some ⟨w.heap.size + 1 + 1 + 1, 0, none⟩) 1 1, .int .i64 0] 25)).alloc (.cells #[.string ⟨#[118, 101, 114, 115, 105, 111, 110]⟩] 9)).alloc (.cells #[.slice (some ⟨w.heap.size + 1, 0, none⟩) 1 1, .string ⟨#[48]⟩] 64)).alloc (.cells #[.slice (some ⟨w.heap.size + 1 + 1, 0, none⟩) 1 1] 22)) := fun i hi => by
    obtain rfl : i = 0 := by omega
    exact ⟨_, 0, _, 1, rfl, ML.1, ML.2.1 0 _ rfl, ML.2.1 1 _ rfl, fun _ => Nat.le_refl _, RS⟩

  have RX : RowX true (some ⟨w.heap.size + 1 + 1 + 1, 0, none⟩) 1 (fun _ => c16) ((((w.alloc (.cells #[.slice (some ⟨w.heap.size + 1 + 1, 0, none⟩) 1 1, .slice (some ⟨w.heap.size + 1 + 1, 0, none⟩) 1 1, .slice (some ⟨w.heap.size + 1 + 1 + 1, 0, none⟩) 1 1, .int .i64 0] 25)).alloc (.cells #[.string ⟨#[118, 101, 114, 115, 105, 111, 110]⟩] 9)).alloc (.cells #[.slice (some ⟨w.heap.size + 1, 0, none⟩) 1 1, .string ⟨#[48]⟩] 64)).alloc (.cells #[.slice (some ⟨w.heap.size + 1 + 1, 0, none⟩) 1 1] 22)) := fun i hi => by
    obtain rfl : i = 0 := by omega
    exact ⟨_, 0, _, 1, rfl, MH.1, MH.2.1 0 _ rfl, RF⟩
  go_enter Try.func31, Try.ntmps31
  go_wp2_with fail
  refine bodyPost_ret (v := stV st16 (some ⟨w.heap.size + 1 + 1, 0, none⟩) 1 (some ⟨w.heap.size + 1 + 1, 0, none⟩) 1 (some ⟨w.heap.size + 1 + 1 + 1, 0, none⟩) 1) (by simp [results, Try.results31, go_sem, stV, st16, c16, r0, r1, r2, r3]) rfl ⟨_, rfl, ?_, d4⟩
  exact ⟨_, _, _, _, _, _, rfl, RF, RF, RX, Nat.le_refl _⟩
set_option maxRecDepth 100000 in
set_option maxHeartbeats 1600000 in
theorem i_newStore (w : World) :
    Calls Try.prog 9 #[] w fun e w' => ∃ v, e = .returned v ∧ AnsSt v st16 w.heap.size w'.heap.size w' ∧ Below w.heap.size w w' := by
  have F1 := hide (fun w => i_firstStore w)
  have F2 := hide (fun v w R => i_ownStore v st16 w gs16.own R)
  have M0 := Mut.new w #[.slice none 0 0, .slice none 0 0, .slice none 0 0, .int .i64 0] 25
  have d0 : Below w.heap.size w (w.alloc (.cells #[.slice none 0 0, .slice none 0 0, .slice none 0 0, .int .i64 0] 25)) := below_box (Below.refl _ _)
  go_enter Try.func9, Try.ntmps9
  go_wp2_with fail
  generalize w.alloc (.cells #[.slice none 0 0, .slice none 0 0, .slice none 0 0, .int .i64 0] 25) = w0 at *
  refine (F1.out _).mono ?_
  rintro e w1 ⟨v1, rfl, R1, bb⟩
  replace M0 := M0.below bb
  have z1 : w.heap.size < w1.heap.size := M0.1
  have d1 := d0.trans (bb.mono d0.size)
  clear bb d0
  go_wp2_with fail
  refine (F2.out _ _ R1.any).mono ?_
  rintro e w2 ⟨v2, rfl, A2, bb⟩
  replace M0 := M0.below bb
  have d2 := d1.trans (bb.mono d1.size)
  have z2 := A2.size
  clear bb R1 F1 F2
  obtain ⟨ca, kc, ra, kr, ha, kh, m1, m2, rfl, l1, l2, l3, l4, l5, X1, X2, X3⟩ := A2
  unfold stV
  go_wp2_with (refine wpList_storeM (us := [.slice ca st16.C.n kc, .slice ra st16.R.n kr, .slice ha st16.h kh, .int .i64 st16.l]) rfl rfl rfl rfl M0 rfl (by intro v hv; simp only [List.mem_cons, List.not_mem_nil, or_false] at hv; rcases hv with rfl | rfl | rfl | rfl <;> rfl) sizeSto ?_; intro w9 M9 o9)
  have on := OnlyP.of_only (P := fun x => x = w.heap.size) o9 rfl
  have z9 := on.2.2.2.1
  have r0 := M9.2.1 0 _ rfl
  have r1 := M9.2.1 1 _ rfl
  have r2 := M9.2.1 2 _ rfl
  have r3 := M9.2.1 3 _ rfl
  have d9 := d2.trans (on.below (base := w.heap.size) (fun x _ hx => by omega) d2.size)
  have A2 : AnsSt (stV st16 ca kc ra kr ha kh) st16 w1.heap.size w2.heap.size w2 := ⟨ca, kc, ra, kr, ha, kh, m1, m2, rfl, l1, l2, l3, l4, l5, X1, X2, X3⟩
  have A9 := A2.onlyP on (fun x h1 h2 e => by omega)
  refine bodyPost_ret (v := stV st16 ca kc ra kr ha kh) (by simp [results, Try.results9, go_sem, stV, r0, r1, r2, r3]) rfl ⟨_, rfl, A9.wide (by omega) z9 (Nat.le_refl _), d9⟩
end Go.Proofs.Ytddbgmknbjdbcaa
