/- What slices.Grow (of nil) and slices.Concat (of two) answer at lists of ReCell. -/
import Derived.Test.YtdbaonpkdcmglaaMemQ
import Derived.Lib.SliceRun
import Derived.Lib.AppendZeros
namespace Go.Proofs.Ytdbaonpkdcmglaa
open Go.RowKit

theorem zero_cells_sizeQ (n : Nat) : (Builtin.zeroCells #[Value.int .i64 0, Value.int .i64 0] n).size = n * 2 := by simp [Builtin.zeroCells]
set_option maxRecDepth 100000 in
set_option maxHeartbeats 1600000 in
theorem i_growQ_pos (n : Nat) (w : World) (h0 : 0 < n) (h1 : n ≤ 8589934594) :
    Calls Try.prog 110 #[.slice none 0 0, .int .i64 n] w fun e w' => ∃ v, e = .returned v ∧ OwnQ w.heap.size v [] w' ∧ Below w.heap.size w w' := by
  obtain ⟨i, hi, hz, hsz, hby⟩ := info_partsQ infoReCell
  have hr := hide (fun (w : World) (ty : TypeId) => Lib.run_append_nil_zeros (P := Try.prog) w 25 3 ty 70 i (.agg #[.int .i64 0, .int .i64 0]) .i64 .i64 Try.underlying25 Try.underlying3 hi hz n h0 (by rw [hsz]; decide) (by omega) (by rw [hby]; omega))
  have hcap := hide (fun w : World => And.intro (grownCap_ge w n 0 70) (grownCap_le_maxLen w n 0 70 (by unfold maxLen; omega)))
  clear hi hz hsz hby
  have hpos : (n : Int) > 0 := by omega
  have hneg : ¬ ((n : Int) < 0) := by omega
  go_enter Try.func110, Try.ntmps110
  go_wp2_with (first | (at_builtin; refine Lib.wpList_append_run _ rfl _ _ _ _ rfl _ _ rfl rfl _ _ (hr.out _ _) ?_))
  obtain ⟨k1, k2⟩ := hcap.out w
  have hM : (Builtin.zeroCells #[Value.int .i64 0, Value.int .i64 0] n ++ Builtin.zeroCells #[Value.int .i64 0, Value.int .i64 0] (grownCap w n 0 70 - n)).size = grownCap w n 0 70 * 2 := by
    have e1 := zero_cells_sizeQ n
    have e2 := zero_cells_sizeQ (grownCap w n 0 70 - n)
    rw [Array.size_append, e1, e2]
    omega
  have hO : OwnQ w.heap.size (.slice (some ⟨w.heap.size, 0, none⟩) 0 (grownCap w n 0 70)) [] (w.alloc (.cells (Builtin.zeroCells #[Value.int .i64 0, Value.int .i64 0] n ++ Builtin.zeroCells #[Value.int .i64 0, Value.int .i64 0] (grownCap w n 0 70 - n)) 70)) :=
    World.ownsRow_made (e := 70) (size := 2) (base := w.heap.size) w _ _ (Nat.le_refl _) k2 hM
  exact bodyPost_ret (v := .slice (some ⟨w.heap.size, 0, none⟩) 0 (grownCap w n 0 70)) (by simp [results, Try.results110, go_sem]) rfl ⟨_, rfl, ownQ_below hO (Below.refl _ _).drew, (below_box (Below.refl _ _)).drew⟩
set_option maxRecDepth 100000 in
set_option maxHeartbeats 1600000 in
theorem i_growQ_nil (w : World) :
    Calls Try.prog 110 #[.slice none 0 0, .int .i64 0] w fun e w' => ∃ v, e = .returned v ∧ OwnQ w.heap.size v [] w' ∧ Below w.heap.size w w' := by
  go_enter Try.func110, Try.ntmps110
  go_wp2_with fail
  go_ret
  exact ⟨_, rfl, ownQ_nil _ _, Below.refl _ _⟩
theorem i_growQ (m : Nat) (n : Int) (e : n = m) (w : World) (hm : m ≤ 8589934594) :
    Calls Try.prog 110 #[.slice none 0 0, .int .i64 n] w fun e w' => ∃ v, e = .returned v ∧ OwnQ w.heap.size v [] w' ∧ Below w.heap.size w w' := by
  subst e
  by_cases h0 : m = 0
  · subst h0
    exact i_growQ_nil w
  · exact i_growQ_pos m w (by omega) hm
set_option maxRecDepth 100000 in
set_option maxHeartbeats 3200000 in
theorem i_concatQ (b c : Nat) (A B : List Cl) (aa ab : Option Addr) (ca cb : Nat) (w : World) (hlA : A.length ≤ 4294967296) (hlB : B.length ≤ 4294967296) (hBk : BkQ w b #[.slice aa A.length ca, .slice ab B.length cb] 25) (hA : SrcQ aa A ca w) (hB : SrcQ ab B cb w) :
    Calls Try.prog 89 #[.slice (some ⟨b, 0, none⟩) 2 c] w fun e w' => ∃ v, e = .returned v ∧ OwnQ w.heap.size v (A ++ B) w' ∧ Below w.heap.size w w' := by
  have s1 := hide (fun w => i_growQ (A.length + B.length) ((A.length : Int) + (B.length : Int)) (by omega) w (by omega))
  have c0 := (hBk.cell 0).trans (show _ = some (.slice aa A.length ca) from rfl)
  have c1 := (hBk.cell 1).trans (show _ = some (.slice ab B.length cb) from rfl)
  have n1 : ¬ ((A.length : Int) < 0) := by omega
  have n2 : ¬ ((A.length : Int) + (B.length : Int) < 0) := by omega
  go_enter Try.func89, Try.ntmps89
  go_wp2_with fail
  go_loopw [3, 11] (fun s i wr => (i = .int .i64 0 ∧ s = .int .i64 0 ∨ i = .int .i64 1 ∧ s = .int .i64 (A.length : Int) ∨ i = .int .i64 2 ∧ s = .int .i64 ((A.length : Int) + (B.length : Int))) ∧ wr = w) (fun _ i _ => 2 - (intOf i).toNat)
  case atStart => exact ⟨.inl ⟨rfl, rfl⟩, rfl⟩
  case round =>
    obtain ⟨h3, hw⟩ := hrel
    have hw := hw.symm
    subst hw
    obtain ⟨rfl, rfl⟩ | ⟨rfl, rfl⟩ | ⟨rfl, rfl⟩ := h3
    · go_wp2_with fail
      exact ⟨⟨.inr (.inl ⟨rfl, rfl⟩), by trivial⟩, by simp [intOf]⟩
    · go_wp2_with fail
      exact ⟨⟨.inr (.inr ⟨rfl, rfl⟩), by trivial⟩, by simp [intOf]⟩
    · go_wp2_with fail
      refine (s1.out _).mono ?_
      rintro e w1 ⟨v1, rfl, ho1, hb1⟩
      clear c0 c1 s1
      go_wp2_with fail
      go_loopw [6, 27] (fun o i wr' => (i = .int .i64 0 ∧ OwnQ w.heap.size o [] wr' ∨ i = .int .i64 1 ∧ OwnQ w.heap.size o A wr' ∨ i = .int .i64 2 ∧ OwnQ w.heap.size o (A ++ B) wr') ∧ Below w.heap.size w wr') (fun _ i _ => 2 - (intOf i).toNat)
      case atStart => exact ⟨.inl ⟨rfl, ho1⟩, hb1⟩
      case round =>
        obtain ⟨⟨rfl, hown⟩ | ⟨rfl, hown⟩ | ⟨rfl, hown⟩, hb⟩ := hrel
        · have c0 := ((hBk.below hb).cell 0).trans (show _ = some (.slice aa A.length ca) from rfl)
          go_wp2_with (first | (at_builtin; refine wpList_appQ rfl _ _ rfl w.heap.size _ [] rfl hown aa A ca rfl ⟨hA.1.below hb, hA.2⟩ (by simp only [List.length_nil]; omega) hb.size ?_))
          intro v' w5 hown' hbe _
          have ho : OwnQ w.heap.size v' A w5 := hown'
          have hb5 := hb.trans hbe
          go_wp2_with fail
          exact ⟨⟨.inr (.inl ⟨rfl, ho⟩), hb5⟩, by simp [intOf]⟩
        · have c1 := ((hBk.below hb).cell 1).trans (show _ = some (.slice ab B.length cb) from rfl)
          go_wp2_with (first | (at_builtin; refine wpList_appQ rfl _ _ rfl w.heap.size _ A rfl hown ab B cb rfl ⟨hB.1.below hb, hB.2⟩ (by omega) hb.size ?_))
          intro v' w5 hown' hbe _
          have hb5 := hb.trans hbe
          go_wp2_with fail
          exact ⟨⟨.inr (.inr ⟨rfl, hown'⟩), hb5⟩, by simp [intOf]⟩
        · go_wp2_with fail
          go_ret
          exact ⟨_, rfl, hown, hb⟩
set_option maxRecDepth 100000 in
set_option maxHeartbeats 3200000 in
theorem i_concatQ3 (b c : Nat) (A B D : List Cl) (aa ab ad : Option Addr) (ca cb cd : Nat) (w : World) (hlA : A.length ≤ 4294967296) (hlB : B.length ≤ 2147483648) (hlD : D.length ≤ 2147483648) (hBk : BkQ w b #[.slice aa A.length ca, .slice ab B.length cb, .slice ad D.length cd] 25) (hA : SrcQ aa A ca w) (hB : SrcQ ab B cb w) (hD : SrcQ ad D cd w) :
    Calls Try.prog 89 #[.slice (some ⟨b, 0, none⟩) 3 c] w fun e w' => ∃ v, e = .returned v ∧ OwnQ w.heap.size v (A ++ B ++ D) w' ∧ Below w.heap.size w w' := by
  have s1 := hide (fun w => i_growQ (A.length + B.length + D.length) ((A.length : Int) + (B.length : Int) + (D.length : Int)) (by omega) w (by omega))
  have c0 := (hBk.cell 0).trans (show _ = some (.slice aa A.length ca) from rfl)
  have c1 := (hBk.cell 1).trans (show _ = some (.slice ab B.length cb) from rfl)
  have c2 := (hBk.cell 2).trans (show _ = some (.slice ad D.length cd) from rfl)
  have n3 : ¬ ((A.length : Int) + (B.length : Int) + (D.length : Int) < 0) := by omega
  have n1 : ¬ ((A.length : Int) < 0) := by omega
  have n2 : ¬ ((A.length : Int) + (B.length : Int) < 0) := by omega
  go_enter Try.func89, Try.ntmps89
  go_wp2_with fail
  go_loopw [3, 11] (fun s i wr => (i = .int .i64 0 ∧ s = .int .i64 0 ∨ i = .int .i64 1 ∧ s = .int .i64 (A.length : Int) ∨ i = .int .i64 2 ∧ s = .int .i64 ((A.length : Int) + (B.length : Int)) ∨ i = .int .i64 3 ∧ s = .int .i64 ((A.length : Int) + (B.length : Int) + (D.length : Int))) ∧ wr = w) (fun _ i _ => 3 - (intOf i).toNat)
  case atStart => exact ⟨.inl ⟨rfl, rfl⟩, rfl⟩
  case round =>
    obtain ⟨h3, hw⟩ := hrel
    have hw := hw.symm
    subst hw
    obtain ⟨rfl, rfl⟩ | ⟨rfl, rfl⟩ | ⟨rfl, rfl⟩ | ⟨rfl, rfl⟩ := h3
    · go_wp2_with fail
      exact ⟨⟨.inr (.inl ⟨rfl, rfl⟩), by trivial⟩, by simp [intOf]⟩
    · go_wp2_with fail
      exact ⟨⟨.inr (.inr (.inl ⟨rfl, rfl⟩)), by trivial⟩, by simp [intOf]⟩
    · go_wp2_with fail
      exact ⟨⟨.inr (.inr (.inr ⟨rfl, rfl⟩)), by trivial⟩, by simp [intOf]⟩
    · go_wp2_with fail
      refine (s1.out _).mono ?_
      rintro e w1 ⟨v1, rfl, ho1, hb1⟩
      clear c0 c1 c2 s1
      go_wp2_with fail
      go_loopw [6, 27] (fun o i wr' => (i = .int .i64 0 ∧ OwnQ w.heap.size o [] wr' ∨ i = .int .i64 1 ∧ OwnQ w.heap.size o A wr' ∨ i = .int .i64 2 ∧ OwnQ w.heap.size o (A ++ B) wr' ∨ i = .int .i64 3 ∧ OwnQ w.heap.size o (A ++ B ++ D) wr') ∧ Below w.heap.size w wr') (fun _ i _ => 3 - (intOf i).toNat)
      case atStart => exact ⟨.inl ⟨rfl, ho1⟩, hb1⟩
      case round =>
        obtain ⟨⟨rfl, hown⟩ | ⟨rfl, hown⟩ | ⟨rfl, hown⟩ | ⟨rfl, hown⟩, hb⟩ := hrel
        · have c0 := ((hBk.below hb).cell 0).trans (show _ = some (.slice aa A.length ca) from rfl)
          go_wp2_with (first | (at_builtin; refine wpList_appQ rfl _ _ rfl w.heap.size _ [] rfl hown aa A ca rfl ⟨hA.1.below hb, hA.2⟩ (by simp only [List.length_nil]; omega) hb.size ?_))
          intro v' w5 hown' hbe _
          have ho : OwnQ w.heap.size v' A w5 := hown'
          have hb5 := hb.trans hbe
          go_wp2_with fail
          exact ⟨⟨.inr (.inl ⟨rfl, ho⟩), hb5⟩, by simp [intOf]⟩
        · have c1 := ((hBk.below hb).cell 1).trans (show _ = some (.slice ab B.length cb) from rfl)
          go_wp2_with (first | (at_builtin; refine wpList_appQ rfl _ _ rfl w.heap.size _ A rfl hown ab B cb rfl ⟨hB.1.below hb, hB.2⟩ (by omega) hb.size ?_))
          intro v' w5 hown' hbe _
          have hb5 := hb.trans hbe
          go_wp2_with fail
          exact ⟨⟨.inr (.inr (.inl ⟨rfl, hown'⟩)), hb5⟩, by simp [intOf]⟩
        · have c2 := ((hBk.below hb).cell 2).trans (show _ = some (.slice ad D.length cd) from rfl)
          go_wp2_with (first | (at_builtin; refine wpList_appQ rfl _ _ rfl w.heap.size _ (A ++ B) rfl hown ad D cd rfl ⟨hD.1.below hb, hD.2⟩ (by rw [List.length_append]; omega) hb.size ?_))
          intro v' w5 hown' hbe _
          have ho := hide (show OwnQ w.heap.size v' (A ++ B ++ D) w5 from by first | exact hown' | simpa using hown')
          have hb5 := hb.trans hbe
          go_wp2_with fail
          exact ⟨⟨.inr (.inr (.inr ⟨rfl, ho.out⟩)), hb5⟩, by simp [intOf]⟩
        · go_wp2_with fail
          go_ret
          exact ⟨_, rfl, hown, hb⟩
end Go.Proofs.Ytdbaonpkdcmglaa
