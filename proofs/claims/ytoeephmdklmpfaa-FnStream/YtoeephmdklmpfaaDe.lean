/- What the specification draws for FeedAll. -/
import Derived.Test.YtoeephmdklmpfaaDt
import Derived.Test.YtoeephmdklmpfaaLaw5
import Derived.Test.YtoeephmdklmpfaaFall5
/- What the specification draws for CutAll; readers compared. -/
namespace Go.Proofs.Ytoeephmdklmpfaa
open Go.RowKit

theorem bytes_to5 {B : Nat} {w w' : World} {v : Value} {len : Nat} (h : BytesAt w.heap.size w v len) (k : Below w.heap.size w w') (hB : w.heap.size ≤ B) : BytesAt B w' v len := by
  obtain ⟨a, cap, hv, hl, hj⟩ := h
  refine ⟨a, cap, hv, hl, fun j h => ?_⟩
  obtain ⟨b, off, z, ha, hb, hw, hz, h0, h1⟩ := hj j h
  exact ⟨b, off, z, ha, by omega, Nat.lt_of_lt_of_le hw k.size, (k.cell (p := ⟨b, off + j, none⟩) hw).trans hz, h0, h1⟩
set_option maxRecDepth 100000 in
theorem d_cutAll (v : Value) (len : Nat) (w : World) (hby : BytesAt w.heap.size w v len) :
    Calls Try.prog 53 #[v] w fun e w' => ∃ s : ByteArray, s.size ≤ 1302 ∧ e = .returned (.string s) ∧ Below w.heap.size w w' := by
  obtain ⟨p, cap, rfl, hl, hj⟩ := hby
  go_enter Try.func53, Try.ntmps53
  go_wp2_with fail
  refine (d_stream w.heap.size (.slice p len cap) len 0 _ (by omega) ⟨0, 0, by omega, by omega, by simp, by simp [go_sem], by simp [go_sem], by simp [go_sem], by omega, by simp [go_sem], by simp [go_sem], by simp [go_sem]⟩ (bytes_to5 ⟨p, cap, rfl, hl, hj⟩ (below_box (Below.refl _ _)) (by omega))).mono ?_
  rintro e w1 ⟨s, hs, rfl, hc1, ho1⟩
  have hb1 : Below w.heap.size w w1 := (below_box (Below.refl _ _)).trans (ho1.below (by simp))
  clear ho1 hj hc1
  go_wp2_with fail
  go_ret
  exact ⟨s, hs, rfl, hb1⟩
set_option maxRecDepth 100000 in
theorem neqMsg_run (a : Int) (s : ByteArray) (w : World) :
    (binOp .neq 37 (.agg #[.int .i64 a, .string s]) (.agg #[.int .i64 a, .string s])).run Try.prog w = .ok (.bool false) w := by
  rw [run_neq_struct, run_equalIn_struct (P := Try.prog) w 9999 37 _ _ (by kernel_rfl) (by kernel_rfl)]
  simp only [Program.fieldsOf, Try.underlying37]
  have e3 : ∀ (x y : Int) (w : World), (Op.equalIn 9999 3 (.int .i64 x) (.int .i64 y)).run Try.prog w = .ok (x == y) w := fun x y w => run_equalIn_int w 9998 3 .i64 .i64 x y Try.underlying3
  have e4 : ∀ (x : ByteArray) (w : World), (Op.equalIn 9999 9 (.string x) (.string x)).run Try.prog w = .ok true w := fun x w => by
    rw [run_equalIn_string w 9998 9 x x Try.underlying9]
    simp
  generalize 9999 = d at e3 e4 ⊢
  simp [Op.eqFields, go_sem, part, e3, e4]
theorem guardMsg : Try.prog.eqGuardType Try.prog.depth 37 = false := by kernel_rfl
theorem eqMsg_guard (op : BinOp) (x y : Operand) (xs ys : Array Value) (w : World) : (eqGuard op 37 x y (.agg xs) (.agg ys)).run Try.prog w = .ok () w := run_eqGuard_agg w op 37 x y xs ys guardMsg
set_option maxRecDepth 100000 in
set_option maxHeartbeats 6400000 in
theorem w_sameReaders (X : ByteArray) (B : Int) (a a' : Option Addr) (cap cap' : Nat) (L : List Ms) (w : World) (hl : L.length ≤ 1048576) (hR : RowM a L w) (hR' : RowM a' L w) :
    Calls Try.prog 52 #[.agg #[.string X, .slice a L.length cap, .int .i64 B], .agg #[.string X, .slice a' L.length cap', .int .i64 B]] w fun e w' => e = .returned (.bool true) ∧ Below w.heap.size w w' := by
  have d0 : Below w.heap.size w ((w.alloc (.cells #[.string X, .slice a L.length cap, .int .i64 B] 48)).alloc (.cells #[.string X, .slice a' L.length cap', .int .i64 B] 48)) := below_box2 (Below.refl _ _)
  have M0 := (Mut.new w #[.string X, .slice a L.length cap, .int .i64 B] 48).alloc (.cells #[.string X, .slice a' L.length cap', .int .i64 B] 48)
  have M1 := Mut.new (w.alloc (.cells #[.string X, .slice a L.length cap, .int .i64 B] 48)) #[.string X, .slice a' L.length cap', .int .i64 B] 48
  simp only [World.size_alloc] at M1
  have k1 : (B != B) = false := by simp
  have k2 : ((L.length : Int) != (L.length : Int)) = false := by simp
  go_enter Try.func52, Try.ntmps52
  go_wp2_with fail
  generalize (w.alloc (.cells #[.string X, .slice a L.length cap, .int .i64 B] 48)).alloc (.cells #[.string X, .slice a' L.length cap', .int .i64 B] 48) = W at *
  go_loopw [30] (fun i wr => ∃ k : Nat, k ≤ L.length ∧ i = .int .i64 k ∧ Below W.heap.size W wr) (fun i _ => L.length - (intOf i).toNat)
  case atStart => exact ⟨0, Nat.zero_le _, rfl, Below.refl _ _⟩
  case round =>
    obtain ⟨k, hk, rfl, hb⟩ := hrel
    by_cases hlt : k < L.length
    · obtain ⟨b, off, rfl, hbw, h0, h1⟩ := (hR.below d0) k hlt
      obtain ⟨b', off', rfl, hbw', i0, i1⟩ := (hR'.below d0) k hlt
      have h0 := (hb.cell (p := ⟨b, off + k * 2, none⟩) hbw).trans h0
      have h1 := (hb.cell (p := ⟨b, off + k * 2 + 1, none⟩) hbw).trans h1
      have i0 := (hb.cell (p := ⟨b', off' + k * 2, none⟩) hbw').trans i0
      have i1 := (hb.cell (p := ⟨b', off' + k * 2 + 1, none⟩) hbw').trans i1
      have m1 := (M0.below hb).2.1 1 _ rfl
      have n1 := (M1.below hb).2.1 1 _ rfl
      have hlt' : (k : Int) < (L.length : Int) := by omega
      have hq := neqMsg_run (mAt L k).1 (mAt L k).2
      have hg := eqMsg_guard
      clear hR hR' M0 M1
      go_wp2_with fail
      go_quiet (fail)
      go_wp2_with fail
      exact ⟨⟨k + 1, by omega, by go_num, below_drewN hb _⟩, by simp [intOf]; omega⟩
    · have hk' : k = L.length := by omega
      subst hk'
      clear hR hR' M0 M1
      go_wp2_with fail
      go_ret
      exact ⟨rfl, d0.trans (hb.mono d0.size)⟩
end Go.Proofs.Ytoeephmdklmpfaa

namespace Go.Proofs.Ytoeephmdklmpfaa
open Go.RowKit

set_option maxRecDepth 100000 in
set_option maxHeartbeats 3200000 in
theorem d_feedAll (v : Value) (len : Nat) (w : World) (hby : BytesAt w.heap.size w v len) :
    Calls Try.prog 51 #[v] w fun e w' => ∃ (a : Option Addr) (cap : Nat) (L : List ByteArray), e = .returned (.slice a L.length cap) ∧ L.length ≤ 120 ∧ (∀ s ∈ L, s.size ≤ 1302) ∧ RowS a L w' ∧ Below w.heap.size w w' := by
  obtain ⟨p, cap, rfl, hl, hj⟩ := hby
  go_enter Try.func51, Try.ntmps51
  go_wp2_with fail
  refine (d_pieces w.heap.size (.slice p len cap) len 0 _ (by omega) ⟨0, 0, by omega, by omega, by simp, by simp [go_sem], by simp [go_sem], by simp [go_sem], by omega, by simp [go_sem], by simp [go_sem], by simp [go_sem]⟩ (bytes_to5 ⟨p, cap, rfl, hl, hj⟩ (below_box (Below.refl _ _)) (by omega))).mono ?_
  rintro e W1 ⟨u, L, hL, hs, rfl, own, hc1, ho1⟩
  have hby1 : BytesAt w.heap.size W1 (.slice p len cap) len := (bytes_to5 ⟨p, cap, rfl, hl, hj⟩ (below_box (Below.refl _ _)) (Nat.le_refl _)).only ho1 (Nat.le_refl _)
  have hb1 : Below w.heap.size w W1 := (below_box (Below.refl _ _)).trans (ho1.below (by simp))
  simp only [World.size_alloc] at own
  have hz1 := ho1.2.2.2.1
  simp at hz1
  have hs := hide hs
  clear ho1 hj
  go_wp2_with fail
  refine (d_one w.heap.size (.slice p len cap) len (0 + 400) 30 _ (by omega) (by omega) hc1 hby1).mono ?_
  rintro e W2 ⟨r2, rfl, hc2, ho2⟩
  have own2 := ownT_only own ho2 (by omega)
  have hb2 : Below w.heap.size w W2 := hb1.trans (ho2.below (by omega))
  have hz2 := ho2.2.2.2.1
  obtain ⟨al, cl, rfl, hrow, _⟩ := ownT_row own2
  clear hc1 hc2 own ho2 hby1 hb1
  cases r2
  · go_wp2_with fail
    go_ret
    exact ⟨al, cl, L, rfl, by omega, hs.out, hrow, hb2⟩
  · have hLL : Hid (L.length ≤ 1000) := by show _ ≤ _; omega
    go_wp2_with (first | (at_builtin; refine wpList_appZ strT Try.underlying3 rfl _ _ rfl (w.heap.size + 1) _ L rfl own2 60 rfl (by decide) (by decide) hLL.out (by decide) (by omega) ?_))
    intro v4 w4 own4 b4
    have hZ1 := hide (show (zer 60).length ≤ 60 by unfold zer; rw [List.length_replicate]; exact Nat.le_refl _)
    have hZ2 := hide (show ∀ s ∈ zer 60, s.size ≤ 1302 from fun s h => by unfold zer at h; rw [(List.mem_replicate.1 h).2]; exact Nat.zero_le _)
    generalize zer 60 = Z at own4 hZ1 hZ2
    obtain ⟨a4, c4, rfl, hrow4, _⟩ := ownT_row own4
    clear own4 own2 hrow
    go_wp2_with fail
    go_ret
    refine ⟨a4, c4, L ++ Z, rfl, by have := hZ1.out; rw [List.length_append]; omega, fun s h => ?_, hrow4, hb2.trans (b4.mono (by omega))⟩
    rcases List.mem_append.1 h with h | h
    · exact hs.out s h
    · exact hZ2.out s h
end Go.Proofs.Ytoeephmdklmpfaa
