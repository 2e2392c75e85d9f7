/- What slices.Clone, slices.Grow (of nil) and slices.Concat (of two) answer at messages. -/
import Derived.Test.YtoeephmdklmpfaaMemM
import Derived.Lib.SliceRun
import Derived.Lib.AppendZeros
namespace Go.Proofs.Ytoeephmdklmpfaa
open Go.RowKit

set_option maxRecDepth 100000 in
set_option maxHeartbeats 1600000 in
theorem i_cloneM (a : Option Addr) (cap : Nat) (L : List Ms) (w : World) (hl : L.length ≤ 8589934592) (hR : SrcM a L cap w) :
    Calls Try.prog 84 #[.slice a L.length cap] w fun e w' => ∃ v, e = .returned v ∧ OwnM w.heap.size v L w' ∧ Below w.heap.size w w' := by
  have q22 : ∀ (w : World) (a : Option Addr) (n c n' c' : Nat), (binOp .eql 42 (.slice a n c) (.slice none n' c')).run Try.prog w = .ok (.bool a.isNone) w := fun w a n c n' c' => Lib.run_eql_slice_nil w _ _ a n c n' c' Try.underlying42
  rcases hR with ⟨hR, ⟨rfl, rfl, rfl⟩ | ⟨b, off, rfl⟩⟩
  · clear hR
    simp only [List.length_nil]
    go_enter Try.func84, Try.ntmps84
    go_wp2_with fail
    go_ret
    exact ⟨_, rfl, ownM_nil _ _, Below.refl _ _⟩
  · go_enter Try.func84, Try.ntmps84
    have hO : OwnM w.heap.size (.slice (some ⟨w.heap.size, 0, none⟩) 0 0) [] (w.alloc (.cells #[] 37)) := World.ownsRow_made w #[] 0 (Nat.le_refl _) (by decide) rfl
    have hR1 := hR.below (below_box (o := .cells #[] 37) (Below.refl _ _))
    go_wp2_with (first | (at_builtin; refine wpList_appM rfl _ _ rfl w.heap.size _ [] rfl hO (some ⟨b, off, none⟩) L cap rfl ⟨hR1, .inr ⟨_, _, rfl⟩⟩ (by simp only [List.length_nil]; omega) (by simp) ?_))
    intro v' w5 hown' hbe _
    have ho : OwnM w.heap.size v' L w5 := hown'
    have hb : Below w.heap.size w w5 := (below_box (Below.refl _ _)).trans hbe
    go_wp2_with fail
    go_ret
    exact ⟨_, rfl, ho, hb⟩
theorem zero_cells_sizeM (n : Nat) : (Builtin.zeroCells #[Value.int .i64 0, Value.string ByteArray.empty] n).size = n * 2 := by simp [Builtin.zeroCells]
set_option maxRecDepth 100000 in
set_option maxHeartbeats 1600000 in
theorem i_growM_pos (n : Nat) (w : World) (h0 : 0 < n) (h1 : n ≤ 8589934594) :
    Calls Try.prog 118 #[.slice none 0 0, .int .i64 n] w fun e w' => ∃ v, e = .returned v ∧ OwnM w.heap.size v [] w' ∧ Below w.heap.size w w' := by
  obtain ⟨i, hi, hz, hsz, hby⟩ := info_partsP infoMsg
  have hr := hide (fun (w : World) (ty : TypeId) => Lib.run_append_nil_zeros (P := Try.prog) w 42 3 ty 37 i (.agg #[.int .i64 0, .string ByteArray.empty]) .i64 .i64 Try.underlying42 Try.underlying3 hi hz n h0 (by rw [hsz]; decide) (by omega) (by rw [hby]; omega))
  have hcap := hide (fun w : World => And.intro (grownCap_ge w n 0 37) (grownCap_le_maxLen w n 0 37 (by unfold maxLen; omega)))
  clear hi hz hsz hby
  have hpos : (n : Int) > 0 := by omega
  have hneg : ¬ ((n : Int) < 0) := by omega
  go_enter Try.func118, Try.ntmps118
  go_wp2_with (first | (at_builtin; refine Lib.wpList_append_run _ rfl _ _ _ _ rfl _ _ rfl rfl _ _ (hr.out _ _) ?_))
  obtain ⟨k1, k2⟩ := hcap.out w
  have hM : (Builtin.zeroCells #[Value.int .i64 0, Value.string ByteArray.empty] n ++ Builtin.zeroCells #[Value.int .i64 0, Value.string ByteArray.empty] (grownCap w n 0 37 - n)).size = grownCap w n 0 37 * 2 := by
    have e1 := zero_cells_sizeM n
    have e2 := zero_cells_sizeM (grownCap w n 0 37 - n)
    rw [Array.size_append, e1, e2]
    omega
  have hO : OwnM w.heap.size (.slice (some ⟨w.heap.size, 0, none⟩) 0 (grownCap w n 0 37)) [] (w.alloc (.cells (Builtin.zeroCells #[Value.int .i64 0, Value.string ByteArray.empty] n ++ Builtin.zeroCells #[Value.int .i64 0, Value.string ByteArray.empty] (grownCap w n 0 37 - n)) 37)) :=
    World.ownsRow_made (e := 37) (size := 2) (base := w.heap.size) w _ _ (Nat.le_refl _) k2 hM
  exact bodyPost_ret (v := .slice (some ⟨w.heap.size, 0, none⟩) 0 (grownCap w n 0 37)) (by simp [results, Try.results118, go_sem]) rfl ⟨_, rfl, ownM_below hO (Below.refl _ _).drew, (below_box (Below.refl _ _)).drew⟩
set_option maxRecDepth 100000 in
set_option maxHeartbeats 1600000 in
theorem i_growM_nil (w : World) :
    Calls Try.prog 118 #[.slice none 0 0, .int .i64 0] w fun e w' => ∃ v, e = .returned v ∧ OwnM w.heap.size v [] w' ∧ Below w.heap.size w w' := by
  go_enter Try.func118, Try.ntmps118
  go_wp2_with fail
  go_ret
  exact ⟨_, rfl, ownM_nil _ _, Below.refl _ _⟩
theorem i_growM (m : Nat) (n : Int) (e : n = m) (w : World) (hm : m ≤ 8589934594) :
    Calls Try.prog 118 #[.slice none 0 0, .int .i64 n] w fun e w' => ∃ v, e = .returned v ∧ OwnM w.heap.size v [] w' ∧ Below w.heap.size w w' := by
  subst e
  by_cases h0 : m = 0
  · subst h0
    exact i_growM_nil w
  · exact i_growM_pos m w (by omega) hm
set_option maxRecDepth 100000 in
set_option maxHeartbeats 3200000 in
theorem i_concatM (b c : Nat) (A B : List Ms) (aa ab : Option Addr) (ca cb : Nat) (w : World) (hlA : A.length ≤ 4294967296) (hlB : B.length ≤ 4294967296) (hBk : Bk w b #[.slice aa A.length ca, .slice ab B.length cb] 42) (hA : SrcM aa A ca w) (hB : SrcM ab B cb w) :
    Calls Try.prog 85 #[.slice (some ⟨b, 0, none⟩) 2 c] w fun e w' => ∃ v, e = .returned v ∧ OwnM w.heap.size v (A ++ B) w' ∧ Below w.heap.size w w' := by
  have s1 := hide (fun w => i_growM (A.length + B.length) ((A.length : Int) + (B.length : Int)) (by omega) w (by omega))
  have c0 := (hBk.cell 0).trans (show _ = some (.slice aa A.length ca) from rfl)
  have c1 := (hBk.cell 1).trans (show _ = some (.slice ab B.length cb) from rfl)
  have n1 : ¬ ((A.length : Int) < 0) := by omega
  have n2 : ¬ ((A.length : Int) + (B.length : Int) < 0) := by omega
  go_enter Try.func85, Try.ntmps85
  go_wp2_with fail
  go_loopw [3, 11] (fun s i wr => (i = .int .i64 0 ∧ s = .int .i64 0 ∨ i = .int .i64 1 ∧ s = .int .i64 (A.length : Int) ∨ i = .int .i64 2 ∧ s = .int .i64 ((A.length : Int) + (B.length : Int))) ∧ wr = w) (fun _ i _ => 2 - (intOf i).toNat)
  case atStart => exact ⟨.inl ⟨rfl, rfl⟩, rfl⟩
  case round =>
    obtain ⟨h3, hw⟩ := hrel
    have hw := hw.symm
    subst hw
    obtain ⟨rfl, rfl⟩ | ⟨rfl, rfl⟩ | ⟨rfl, rfl⟩ := h3
    · go_wp2_with fail
      exact ⟨⟨.inr (.inl ⟨rfl, rfl⟩), by trivial⟩, by simp [intOf]⟩
    · go_wp2_with fail
      exact ⟨⟨.inr (.inr ⟨rfl, rfl⟩), by trivial⟩, by simp [intOf]⟩
    · go_wp2_with fail
      refine (s1.out _).mono ?_
      rintro e w1 ⟨v1, rfl, ho1, hb1⟩
      clear c0 c1 s1
      go_wp2_with fail
      go_loopw [6, 27] (fun o i wr' => (i = .int .i64 0 ∧ OwnM w.heap.size o [] wr' ∨ i = .int .i64 1 ∧ OwnM w.heap.size o A wr' ∨ i = .int .i64 2 ∧ OwnM w.heap.size o (A ++ B) wr') ∧ Below w.heap.size w wr') (fun _ i _ => 2 - (intOf i).toNat)
      case atStart => exact ⟨.inl ⟨rfl, ho1⟩, hb1⟩
      case round =>
        obtain ⟨⟨rfl, hown⟩ | ⟨rfl, hown⟩ | ⟨rfl, hown⟩, hb⟩ := hrel
        · have c0 := ((hBk.below hb).cell 0).trans (show _ = some (.slice aa A.length ca) from rfl)
          go_wp2_with (first | (at_builtin; refine wpList_appM rfl _ _ rfl w.heap.size _ [] rfl hown aa A ca rfl ⟨hA.1.below hb, hA.2⟩ (by simp only [List.length_nil]; omega) hb.size ?_))
          intro v' w5 hown' hbe _
          have ho : OwnM w.heap.size v' A w5 := hown'
          have hb5 := hb.trans hbe
          go_wp2_with fail
          exact ⟨⟨.inr (.inl ⟨rfl, ho⟩), hb5⟩, by simp [intOf]⟩
        · have c1 := ((hBk.below hb).cell 1).trans (show _ = some (.slice ab B.length cb) from rfl)
          go_wp2_with (first | (at_builtin; refine wpList_appM rfl _ _ rfl w.heap.size _ A rfl hown ab B cb rfl ⟨hB.1.below hb, hB.2⟩ (by omega) hb.size ?_))
          intro v' w5 hown' hbe _
          have hb5 := hb.trans hbe
          go_wp2_with fail
          exact ⟨⟨.inr (.inr ⟨rfl, hown'⟩), hb5⟩, by simp [intOf]⟩
        · go_wp2_with fail
          go_ret
          exact ⟨_, rfl, hown, hb⟩
end Go.Proofs.Ytoeephmdklmpfaa
