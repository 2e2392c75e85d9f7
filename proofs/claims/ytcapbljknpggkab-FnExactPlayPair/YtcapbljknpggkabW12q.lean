/- The law on PlayPair: the program answers as the specification. -/
import Derived.Test.YtcapbljknpggkabS12t
import Derived.Test.YtcapbljknpggkabI12u
import Derived.Test.YtcapbljknpggkabFlatSession
namespace Go.Proofs.Ytcapbljknpggkab
open Go.RowKit
set_option maxRecDepth 100000 in
set_option maxHeartbeats 6400000 in
theorem w_playPair (a b : Int) (ra : Option Addr) (n rc : Nat) (f : Nat → Int) (w : World) (hn : n ≤ maxLen) (hA : RowInt ra n f w) :
    Calls Try.prog 4 #[.int .i64 a, .int .i64 b, .slice ra n rc] w fun e w' => e = .returned (.bool true) ∧ Below w.heap.size w w' := by
  unfold maxLen at hn
  by_cases hs : n ≤ 1048576
  · have hlt : ¬ (n : Int) > 1048576 := by omega
    have TA := hide (fun w R => w_toIntS ra n rc f w hs R)
    have EA := hide (fun a a' c c' w R Q => w_eqIntS a a' n c c' f w (by omega) R Q)
    have SG := hide (fun ra rc w R => s_playPair a b ra n rc f w hs R)
    have IG := hide (fun ra rc w R => i_playPair a b ra n rc f w hs R)
    generalize pqB a b n f = g at *
    generalize pqX a b n f = X at *
    generalize pqY a b n f = Y at *
    obtain ⟨x0, x1, x2, x3, x4⟩ := X
    obtain ⟨y0, y1, y2, y3, y4⟩ := Y
    have EX := hide (fun w => w_eqSession x0 x1 x2 x3 x4 w)
    have EY := hide (fun w => w_eqSession y0 y1 y2 y3 y4 w)
    have hgg : (g != g) = false := by simp
    clear hn
    go_enter Try.func4, Try.ntmps4
    go_wp2_with fail
    refine (TA.out _ hA).mono ?_
    rintro e w1 ⟨rfl, b1, o1⟩
    go_wp2_with fail
    refine (SG.out _ _ _ o1.row).mono ?_
    rintro e w2 ⟨rfl, b2⟩
    have d2 := b1.trans (b2.mono b1.size)
    have MX := (Mut.new w2 #[.int .i64 x0, .int .i64 x1, .int .i64 x2, .int .i64 x3, .int .i64 x4] 25).alloc (.cells #[.int .i64 y0, .int .i64 y1, .int .i64 y2, .int .i64 y3, .int .i64 y4] 25)
    have MY : Mut ((w2.alloc (.cells #[.int .i64 x0, .int .i64 x1, .int .i64 x2, .int .i64 x3, .int .i64 x4] 25)).alloc (.cells #[.int .i64 y0, .int .i64 y1, .int .i64 y2, .int .i64 y3, .int .i64 y4] 25)) (w2.heap.size + 1) [.int .i64 y0, .int .i64 y1, .int .i64 y2, .int .i64 y3, .int .i64 y4] := by
      simpa using Mut.new (w2.alloc (.cells #[.int .i64 x0, .int .i64 x1, .int .i64 x2, .int .i64 x3, .int .i64 x4] 25)) #[.int .i64 y0, .int .i64 y1, .int .i64 y2, .int .i64 y3, .int .i64 y4] 25
    have bW : Below w2.heap.size w2 ((w2.alloc (.cells #[.int .i64 x0, .int .i64 x1, .int .i64 x2, .int .i64 x3, .int .i64 x4] 25)).alloc (.cells #[.int .i64 y0, .int .i64 y1, .int .i64 y2, .int .i64 y3, .int .i64 y4] 25)) := below_box2 (Below.refl _ _)
    have dA := d2.trans (bW.mono d2.size)
    clear b1 b2 o1 d2 bW
    go_upto_region 4 with fail
    generalize (w2.alloc (.cells #[.int .i64 x0, .int .i64 x1, .int .i64 x2, .int .i64 x3, .int .i64 x4] 25)).alloc (.cells #[.int .i64 y0, .int .i64 y1, .int .i64 y2, .int .i64 y3, .int .i64 y4] 25) = wA at *
    generalize w2.heap.size = q7 at *
    go_wp2_with fail
    refine (TA.out _ (hA.below dA)).mono ?_
    rintro e w3 ⟨rfl, b3, o3⟩
    replace MX := MX.below b3
    replace MY := MY.below b3
    replace dA := dA.trans (b3.mono dA.size)
    clear b3
    generalize wA.heap.size = qI at *
    go_wp2_with fail
    refine (IG.out _ _ _ o3.row).mono ?_
    rintro e w4 ⟨rfl, b4⟩
    have NX := (Mut.new w4 #[.int .i64 x0, .int .i64 x1, .int .i64 x2, .int .i64 x3, .int .i64 x4] 25).alloc (.cells #[.int .i64 y0, .int .i64 y1, .int .i64 y2, .int .i64 y3, .int .i64 y4] 25)
    have NY : Mut ((w4.alloc (.cells #[.int .i64 x0, .int .i64 x1, .int .i64 x2, .int .i64 x3, .int .i64 x4] 25)).alloc (.cells #[.int .i64 y0, .int .i64 y1, .int .i64 y2, .int .i64 y3, .int .i64 y4] 25)) (w4.heap.size + 1) [.int .i64 y0, .int .i64 y1, .int .i64 y2, .int .i64 y3, .int .i64 y4] := by
      simpa using Mut.new (w4.alloc (.cells #[.int .i64 x0, .int .i64 x1, .int .i64 x2, .int .i64 x3, .int .i64 x4] 25)) #[.int .i64 y0, .int .i64 y1, .int .i64 y2, .int .i64 y3, .int .i64 y4] 25
    have bV : Below w4.heap.size w4 ((w4.alloc (.cells #[.int .i64 x0, .int .i64 x1, .int .i64 x2, .int .i64 x3, .int .i64 x4] 25)).alloc (.cells #[.int .i64 y0, .int .i64 y1, .int .i64 y2, .int .i64 y3, .int .i64 y4] 25)) := below_box2 (Below.refl _ _)
    replace MX := (MX.below b4).below bV
    replace MY := (MY.below b4).below bV
    replace o3 := (o3.below b4).below bV
    replace dA := (dA.trans (b4.mono dA.size)).trans (bV.mono (Nat.le_trans dA.size b4.size))
    clear b4 bV
    go_upto_region 6 with fail
    generalize (w4.alloc (.cells #[.int .i64 x0, .int .i64 x1, .int .i64 x2, .int .i64 x3, .int .i64 x4] 25)).alloc (.cells #[.int .i64 y0, .int .i64 y1, .int .i64 y2, .int .i64 y3, .int .i64 y4] 25) = wB at *
    generalize w4.heap.size = q11 at *
    have ca0 := MX.2.1 0 _ rfl
    have ca1 := MX.2.1 1 _ rfl
    have ca2 := MX.2.1 2 _ rfl
    have ca3 := MX.2.1 3 _ rfl
    have ca4 := MX.2.1 4 _ rfl
    have cb0 := NX.2.1 0 _ rfl
    have cb1 := NX.2.1 1 _ rfl
    have cb2 := NX.2.1 2 _ rfl
    have cb3 := NX.2.1 3 _ rfl
    have cb4 := NX.2.1 4 _ rfl
    go_wp2_with fail
    refine (EX.out _).mono ?_
    rintro e w5 ⟨rfl, b5⟩
    replace MY := MY.below b5
    replace NY := NY.below b5
    replace o3 := o3.below b5
    replace dA := dA.trans (b5.mono dA.size)
    clear b5 MX NX ca0 ca1 ca2 ca3 ca4 cb0 cb1 cb2 cb3 cb4
    have ca0 := MY.2.1 0 _ rfl
    have ca1 := MY.2.1 1 _ rfl
    have ca2 := MY.2.1 2 _ rfl
    have ca3 := MY.2.1 3 _ rfl
    have ca4 := MY.2.1 4 _ rfl
    have cb0 := NY.2.1 0 _ rfl
    have cb1 := NY.2.1 1 _ rfl
    have cb2 := NY.2.1 2 _ rfl
    have cb3 := NY.2.1 3 _ rfl
    have cb4 := NY.2.1 4 _ rfl
    go_wp2_with fail
    refine (EY.out _).mono ?_
    rintro e w6 ⟨rfl, b6⟩
    replace o3 := o3.below b6
    replace dA := dA.trans (b6.mono dA.size)
    clear b6 MY NY ca0 ca1 ca2 ca3 ca4 cb0 cb1 cb2 cb3 cb4
    go_wp2_with fail
    refine (TA.out _ (hA.below dA)).mono ?_
    rintro e w7 ⟨rfl, b7, o7⟩
    replace o3 := o3.below b7
    replace dA := dA.trans (b7.mono dA.size)
    clear b7
    go_wp2_with fail
    refine (EA.out _ _ _ _ _ o3.row o7.row).mono ?_
    rintro e w8 ⟨rfl, b8⟩
    replace dA := dA.trans (b8.mono dA.size)
    go_wp2_with fail
    go_ret
    exact ⟨rfl, dA⟩
  · have hlt : (n : Int) > 1048576 := by omega
    go_enter Try.func4, Try.ntmps4
    go_wp2_with fail
    go_ret
    exact ⟨rfl, Below.refl _ _⟩
end Go.Proofs.Ytcapbljknpggkab
