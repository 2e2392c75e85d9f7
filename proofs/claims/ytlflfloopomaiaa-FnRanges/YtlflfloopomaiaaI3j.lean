/- What slices.Grow (of nil) and slices.Concat (of two lists of prefixes) answer. -/
import Derived.Test.YtlflfloopomaiaaShelf3g
import Derived.Test.YtlflfloopomaiaaMem3
namespace Go.Proofs.Ytlflfloopomaiaa
open Go.RowKit

theorem zc2_size (z : Array Value) (h : z.size = 2) (n : Nat) : (Builtin.zeroCells z n).size = n * 2 := by
  simp [Builtin.zeroCells, h]
theorem i_grow (m : Nat) (n : Int) (e : n = m) (w : World) (hm : m ≤ 8589934594) :
    Calls Try.prog 96 #[.slice none 0 0, .int .i64 n] w fun e w' => ∃ v, e = .returned v ∧ OwnP w.heap.size v [] w' ∧ Below w.heap.size w w' := by
  subst e
  obtain ⟨i0, hi, hz0, hz1, hz2⟩ := info_partsP infoPrefix
  by_cases h0 : m = 0
  · subst h0
    refine (Try.slices_Grow_room none 0 0 0 w (by omega) (by omega) (by omega) (by omega)).mono ?_
    rintro e w' ⟨rfl, rfl⟩
    exact ⟨_, rfl, ownP_nil _ _, Below.refl _ _⟩
  · have h := Any8.slices_Grow_grow Try.laysGrow i0 _ hi hz0 (by omega) none 0 0 m [] w (by omega) (by omega) (by rw [hz2]; omega) (by omega) (by simp) (fun _ => rfl) (fun _ h => by simp at h)
    refine Calls.mono h ?_
    rintro e w' ⟨rfl, rfl⟩
    have hge := grownCap_ge w (0 + m) 0 34
    have hle := grownCap_le_maxLen w (0 + m) 0 34 (by unfold maxLen; omega)
    have hb : Below w.heap.size w w.drew := (Below.refl _ _).drew
    have hbw : Below w.heap.size w (w.drew.alloc (.cells (([] : List Value).toArray ++ Builtin.zeroCells (Value.agg #[.int .i64 0, .int .i64 0]).cells (0 + m - 0) ++ Builtin.zeroCells (Value.agg #[.int .i64 0, .int .i64 0]).cells (grownCap w (0 + m) 0 34 - (0 + m))) 34)) := hb.trans (show Below w.drew.heap.size w.drew _ from below_box (Below.refl _ _))
    refine ⟨_, rfl, ?_, hbw⟩
    have hz : (Value.agg #[.int .i64 0, .int .i64 0]).cells.size = 2 := by decide
    have hs : (([] : List Value).toArray ++ Builtin.zeroCells (Value.agg #[.int .i64 0, .int .i64 0]).cells (0 + m - 0) ++ Builtin.zeroCells (Value.agg #[.int .i64 0, .int .i64 0]).cells (grownCap w (0 + m) 0 34 - (0 + m))).size = grownCap w (0 + m) 0 34 * 2 := by
      rw [Array.size_append, Array.size_append, zc2_size _ hz, zc2_size _ hz]
      simp only [List.size_toArray, List.length_nil]
      omega
    exact World.ownsRow_made w.drew _ _ (Nat.le_refl _) hle hs
set_option maxRecDepth 100000 in
set_option maxHeartbeats 3200000 in
theorem i_concat (b c : Nat) (A B : List Pf) (aa ab : Option Addr) (ca cb : Nat) (w : World) (hlA : A.length ≤ 4294967296) (hlB : B.length ≤ 4294967296) (hBk : Bk w b #[.slice aa A.length ca, .slice ab B.length cb] 23) (hA : SrcP aa A ca w) (hB : SrcP ab B cb w) :
    Calls Try.prog 90 #[.slice (some ⟨b, 0, none⟩) 2 c] w fun e w' => ∃ v, e = .returned v ∧ OwnP w.heap.size v (A ++ B) w' ∧ Below w.heap.size w w' := by
  have s1 := hide (fun w => i_grow (A.length + B.length) ((A.length : Int) + (B.length : Int)) (by omega) w (by omega))
  have c0 := (hBk.cell 0).trans (show _ = some (.slice aa A.length ca) from rfl)
  have c1 := (hBk.cell 1).trans (show _ = some (.slice ab B.length cb) from rfl)
  have n1 : ¬ ((A.length : Int) < 0) := by omega
  have n2 : ¬ ((A.length : Int) + (B.length : Int) < 0) := by omega
  go_enter Try.func90, Try.ntmps90
  go_wp2_with fail
  go_loopw [3, 11] (fun s i wr => (i = .int .i64 0 ∧ s = .int .i64 0 ∨ i = .int .i64 1 ∧ s = .int .i64 (A.length : Int) ∨ i = .int .i64 2 ∧ s = .int .i64 ((A.length : Int) + (B.length : Int))) ∧ wr = w) (fun _ i _ => 2 - (intOf i).toNat)
  case atStart => exact ⟨.inl ⟨rfl, rfl⟩, rfl⟩
  case round =>
    obtain ⟨h3, hw⟩ := hrel
    have hw := hw.symm
    subst hw
    obtain ⟨rfl, rfl⟩ | ⟨rfl, rfl⟩ | ⟨rfl, rfl⟩ := h3
    · go_wp2_with fail
      exact ⟨⟨.inr (.inl ⟨rfl, rfl⟩), by trivial⟩, by simp [intOf]⟩
    · go_wp2_with fail
      exact ⟨⟨.inr (.inr ⟨rfl, rfl⟩), by trivial⟩, by simp [intOf]⟩
    · go_wp2_with fail
      refine (s1.out _).mono ?_
      rintro e w1 ⟨v1, rfl, ho1, hb1⟩
      clear c0 c1 s1
      go_wp2_with fail
      go_loopw [6, 27] (fun o i wr' => (i = .int .i64 0 ∧ OwnP w.heap.size o [] wr' ∨ i = .int .i64 1 ∧ OwnP w.heap.size o A wr' ∨ i = .int .i64 2 ∧ OwnP w.heap.size o (A ++ B) wr') ∧ Below w.heap.size w wr') (fun _ i _ => 2 - (intOf i).toNat)
      case atStart => exact ⟨.inl ⟨rfl, ho1⟩, hb1⟩
      case round =>
        obtain ⟨⟨rfl, hown⟩ | ⟨rfl, hown⟩ | ⟨rfl, hown⟩, hb⟩ := hrel
        · have c0 := ((hBk.below hb).cell 0).trans (show _ = some (.slice aa A.length ca) from rfl)
          go_wp2_with (first | (at_builtin; refine wpList_appP rfl _ _ rfl w.heap.size _ [] rfl hown aa A ca rfl ⟨hA.1.below hb, hA.2⟩ (by simp only [List.length_nil]; omega) hb.size ?_))
          intro v' w5 hown' hbe _
          have ho : OwnP w.heap.size v' A w5 := hown'
          have hb5 := hb.trans hbe
          go_wp2_with fail
          exact ⟨⟨.inr (.inl ⟨rfl, ho⟩), hb5⟩, by simp [intOf]⟩
        · have c1 := ((hBk.below hb).cell 1).trans (show _ = some (.slice ab B.length cb) from rfl)
          go_wp2_with (first | (at_builtin; refine wpList_appP rfl _ _ rfl w.heap.size _ A rfl hown ab B cb rfl ⟨hB.1.below hb, hB.2⟩ (by omega) hb.size ?_))
          intro v' w5 hown' hbe _
          have hb5 := hb.trans hbe
          go_wp2_with fail
          exact ⟨⟨.inr (.inr ⟨rfl, hown'⟩), hb5⟩, by simp [intOf]⟩
        · go_wp2_with fail
          go_ret
          exact ⟨_, rfl, hown, hb⟩
end Go.Proofs.Ytlflfloopomaiaa
