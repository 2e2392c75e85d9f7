/- What the program's FeedReader answers. -/
import Derived.Test.YtoeephmdklmpfaaFeed5
import Derived.Test.YtoeephmdklmpfaaI5c
import Derived.Test.YtoeephmdklmpfaaI5t
namespace Go.Proofs.Ytoeephmdklmpfaa
open Go.RowKit

set_option maxRecDepth 100000 in
set_option maxHeartbeats 6400000 in
theorem i_feed_no (Y : ByteArray) (c cap : Nat) (K : List Ms) (D : Int) (s : ByteArray) (w : World) (hY : Y.size ≤ 1048576) (hl : K.length ≤ 1048576) (hs : s.size ≤ 1048576) (hg : grB Y K D = false ∨ ¬ s.size ≤ 300) (hR : RowM (some ⟨c, 0, none⟩) K w) :
    Calls Try.prog 41 #[.agg #[.string Y, .slice (some ⟨c, 0, none⟩) K.length cap, .int .i64 D], .string s] w fun e w' => ∃ v, e = .returned (.tuple #[v, .bool false]) ∧ AnsR ByteArray.empty [] 0 w v w' := by
  have G := hide (fun w hR => i_goodReader Y (some ⟨c, 0, none⟩) cap K D w (by omega) hl hR)
  have M0 := (Mut.new w #[.string Y, .slice (some ⟨c, 0, none⟩) K.length cap, .int .i64 D] 48).alloc (.cells #[.string ⟨#[]⟩, .slice none 0 0, .int .i64 0] 48)
  have M1 := Mut.new (w.alloc (.cells #[.string Y, .slice (some ⟨c, 0, none⟩) K.length cap, .int .i64 D] 48)) #[.string ⟨#[]⟩, .slice none 0 0, .int .i64 0] 48
  simp only [World.size_alloc] at M1
  have hcase : Hid (grB Y K D = false ∨ (grB Y K D = true ∧ (s.size : Int) > 300)) := by
    show _ ∨ _
    cases h : grB Y K D with
    | false => exact .inl rfl
    | true => exact .inr ⟨rfl, by rcases hg with h2 | h2; · rw [h] at h2; cases h2
                                  · omega⟩
  clear hg hl hY
  go_enter Try.func41, Try.ntmps41
  go_wp2_with fail
  refine (G.out _ (hR.below (below_box2 (Below.refl _ _)))).mono ?_
  rintro e w1 ⟨rfl, b1⟩
  have M0 := M0.below b1
  have M1 := M1.below b1
  have d1 := below_box2 b1
  have R1 := hR.below d1
  clear b1 hR G
  have p0 := M1.2.1 0 _ rfl
  have p1 := M1.2.1 1 _ rfl
  have p2 := M1.2.1 2 _ rfl
  have a0 := M1.2.2 0 (by simp)
  have a1 := M1.2.2 1 (by simp)
  have a2 := M1.2.2 2 (by simp)
  have o1 : Only (w.heap.size + 1) w1 (((w1.setCell ⟨w.heap.size + 1, 0, none⟩ (.string ⟨#[]⟩)).setCell ⟨w.heap.size + 1, 1, none⟩ (.slice none 0 0)).setCell ⟨w.heap.size + 1, 2, none⟩ (.int .i64 0)) := (((Only.refl _ _).setCell _ _).setCell _ _).setCell _ _
  have y1 := M1.1
  have d5 := hide (d1.trans ((o1.below (by omega)).mono (by omega)))
  clear o1 M0 M1 d1 R1
  rcases hcase.out with h | ⟨h, hs3⟩
  · rw [h]
    clear h hcase
    go_wp2_with fail
    exact bodyPost_ret (v := .tuple #[.agg #[.string ByteArray.empty, .slice none 0 0, .int .i64 0], .bool false]) (by simp [results, Try.results41, go_sem, *] <;> rfl) rfl ⟨_, rfl, none, 0, 0, rfl, fun h => absurd rfl h, WrM.nil _ _ _, d5.out⟩
  · rw [h]
    clear h hcase
    go_wp2_with fail
    exact bodyPost_ret (v := .tuple #[.agg #[.string ByteArray.empty, .slice none 0 0, .int .i64 0], .bool false]) (by simp [results, Try.results41, go_sem, *] <;> rfl) rfl ⟨_, rfl, none, 0, 0, rfl, fun h => absurd rfl h, WrM.nil _ _ _, d5.out⟩
set_option maxRecDepth 100000 in
set_option maxHeartbeats 6400000 in
theorem i_feed_bad (Y : ByteArray) (c cap : Nat) (K : List Ms) (D : Int) (s : ByteArray) (w : World) (hY : Y.size ≤ 1048576) (hl : K.length ≤ 1048576) (hs : s.size ≤ 300) (hg : grB Y K D = true) (hD : D ≠ 0) (hR : RowM (some ⟨c, 0, none⟩) K w) :
    Calls Try.prog 41 #[.agg #[.string Y, .slice (some ⟨c, 0, none⟩) K.length cap, .int .i64 D], .string s] w fun e w' => ∃ v, e = .returned (.tuple #[v, .bool true]) ∧ AnsR Y K D w v w' := by
  have G := hide (fun w hR => i_goodReader Y (some ⟨c, 0, none⟩) cap K D w (by omega) hl hR)
  have M0 := (Mut.new w #[.string Y, .slice (some ⟨c, 0, none⟩) K.length cap, .int .i64 D] 48).alloc (.cells #[.string ⟨#[]⟩, .slice none 0 0, .int .i64 0] 48)
  have M1 := Mut.new (w.alloc (.cells #[.string Y, .slice (some ⟨c, 0, none⟩) K.length cap, .int .i64 D] 48)) #[.string ⟨#[]⟩, .slice none 0 0, .int .i64 0] 48
  simp only [World.size_alloc] at M1
  rw [hg] at G
  have hs' : ¬ ((s.size : Int) > 300) := by omega
  have hD' : (D != 0) = true := by simpa using hD
  have C := hide (fun w hR => i_cloneM (some ⟨c, 0, none⟩) cap K w (by omega) ⟨hR, .inr ⟨_, _, rfl⟩⟩)
  clear hg hl hY hs hD
  go_enter Try.func41, Try.ntmps41
  go_wp2_with fail
  refine (G.out _ (hR.below (below_box2 (Below.refl _ _)))).mono ?_
  rintro e w1 ⟨rfl, b1⟩
  have M0 := M0.below b1
  have M1 := M1.below b1
  have d1 := below_box2 b1
  have R1 := hR.below d1
  clear b1 hR G
  have u0 := M0.2.1 0 _ rfl
  have u1 := M0.2.1 1 _ rfl
  have u2 := M0.2.1 2 _ rfl
  go_wp2_with fail
  refine (C.out _ R1).mono ?_
  rintro e w2 ⟨v, rfl, ho, b2⟩
  have z1 := M1.1
  have M0 := M0.below b2
  have M1 := M1.below b2
  have d2 := d1.trans (b2.mono d1.size)
  obtain ⟨a', c', g', rfl, hg', O'⟩ := WrM.own ho
  clear b2 ho d1 R1 C u0 u1 u2
  have f1 := M0.2.2 1 (by simp)
  have u0 := M0.2.1 0 _ rfl
  have u1 := M0.2.1 1 _ rfl
  have u2 := M0.2.1 2 _ rfl
  have p0 := M1.2.1 0 _ rfl
  have p1 := M1.2.1 1 _ rfl
  have p2 := M1.2.1 2 _ rfl
  have a0 := M1.2.2 0 (by simp)
  have a1 := M1.2.2 1 (by simp)
  have a2 := M1.2.2 2 (by simp)
  have o0 : Only w.heap.size w2 (w2.setCell ⟨w.heap.size, 1, none⟩ (.slice a' K.length c')) := (Only.refl _ _).setCell _ _
  have y2 := M1.1
  clear M0 M1
  go_wp2_with fail
  have o1 : Only (w.heap.size + 1) (w2.setCell ⟨w.heap.size, 1, none⟩ (.slice a' K.length c')) ((((w2.setCell ⟨w.heap.size, 1, none⟩ (.slice a' K.length c')).setCell ⟨w.heap.size + 1, 0, none⟩ (.string Y)).setCell ⟨w.heap.size + 1, 1, none⟩ (.slice a' K.length c')).setCell ⟨w.heap.size + 1, 2, none⟩ (.int .i64 D)) := (((Only.refl _ _).setCell _ _).setCell _ _).setCell _ _
  have O4 := (O'.only o0 (fun h => by have := hg' h; omega)).only o1 (fun h => by have := hg' h; omega)
  have d5 := (d2.trans (o0.below (by omega))).trans ((o1.below (by have := o0.2.2.2.1; omega)).mono (by omega))
  have hF : K ≠ [] → w.heap.size ≤ g' := fun h => by have := hg' h; omega
  clear o0 o1 O' d2
  exact bodyPost_ret (v := .tuple #[.agg #[.string Y, .slice a' K.length c', .int .i64 D], .bool true]) (by simp [results, Try.results41, go_sem, *]) rfl ⟨_, rfl, a', c', g', rfl, hF, O4, d5⟩
set_option maxRecDepth 100000 in
set_option maxHeartbeats 6400000 in
theorem i_feed_cut (Y : ByteArray) (c cap : Nat) (K : List Ms) (D : Int) (s : ByteArray) (w : World) (hY : Y.size ≤ 1048576) (hl : K.length ≤ 1048576) (hs : s.size ≤ 300) (hg : grB Y K D = true) (hD : D = 0) (hR : RowM (some ⟨c, 0, none⟩) K w) :
    Calls Try.prog 41 #[.agg #[.string Y, .slice (some ⟨c, 0, none⟩) K.length cap, .int .i64 D], .string s] w fun e w' => ∃ v, e = .returned (.tuple #[v, .bool true]) ∧ AnsR (cut (Y ++ s)).2.1 (K ++ (cut (Y ++ s)).1.take (40 - K.length)) (cut (Y ++ s)).2.2 w v w' := by
  have G := hide (fun w hR => i_goodReader Y (some ⟨c, 0, none⟩) cap K D w (by omega) hl hR)
  have M0 := (Mut.new w #[.string Y, .slice (some ⟨c, 0, none⟩) K.length cap, .int .i64 D] 48).alloc (.cells #[.string ⟨#[]⟩, .slice none 0 0, .int .i64 0] 48)
  have M1 := Mut.new (w.alloc (.cells #[.string Y, .slice (some ⟨c, 0, none⟩) K.length cap, .int .i64 D] 48)) #[.string ⟨#[]⟩, .slice none 0 0, .int .i64 0] 48
  simp only [World.size_alloc] at M1
  rw [hg] at G
  subst hD
  have hk40 := (gr_len hg).1
  have hs' : ¬ ((s.size : Int) > 300) := by omega
  have hcat := fun (w : World) => run_string_add_sum (P := Try.prog) w Y s (by omega)
  have C := hide (fun w => i_cut (Y ++ s) w (by rw [app_size]; omega))
  have hcl := (cut_len (Y ++ s) _ (Nat.le_refl _)).1
  rw [app_size] at hcl
  unfold CutP at C
  clear hg hs
  generalize (cut (Y ++ s)).2.1 = X' at *
  generalize (cut (Y ++ s)).2.2 = B' at *
  generalize hTT : (cut (Y ++ s)).1 = TT at *
  clear hTT
  go_enter Try.func41, Try.ntmps41
  go_wp2_with fail
  refine (G.out _ (hR.below (below_box2 (Below.refl _ _)))).mono ?_
  rintro e w1 ⟨rfl, b1⟩
  have M0 := M0.below b1
  have M1 := M1.below b1
  have d1 := below_box2 b1
  have R1 := hR.below d1
  clear b1 hR G
  have u0 := M0.2.1 0 _ rfl
  have u1 := M0.2.1 1 _ rfl
  have u2 := M0.2.1 2 _ rfl
  go_wp2_with fail
  refine (C.out _).mono ?_
  rintro e w2 ⟨v, rfl, ho, b2⟩
  have z1 := M1.1
  have M0 := M0.below b2
  have M1 := M1.below b2
  have R2 := R1.below b2
  have d2 := d1.trans (b2.mono d1.size)
  have hn1 := d1.size
  obtain ⟨ta, tc, rfl, hRT, hta⟩ := ownM_row ho
  clear b2 d1 R1 C u0 u1 u2
  have u0 := M0.2.1 0 _ rfl
  have u1 := M0.2.1 1 _ rfl
  have u2 := M0.2.1 2 _ rfl
  have h40 : (40 - (K.length : Int)) = ((40 - K.length : Nat) : Int) := by omega
  by_cases hmn : TT.length ≤ 40 - K.length
  · have hlen : True := trivial
    have hmI : (TT.length : Int) ≤ 40 - (K.length : Int) := by omega
    go_wp2_with fail
    clear h40
    have hrc : TT.length ≤ tc := by
      rcases hta with ⟨_, _, rfl⟩ | ⟨g, _, _, _, h5, _⟩
      · simp at hmn ⊢
      · omega
    have hrcI : ((TT.length : Nat) : Int) ≤ (tc : Int) := by omega
    have hsrc : SrcM ta TT tc w2 := ⟨hRT, by
      rcases hta with ⟨e1, e2, e3⟩ | ⟨g, e1, _⟩
      · exact .inl ⟨e1, by rw [e3], e2⟩
      · exact .inr ⟨g, 0, e1⟩⟩
    have CC := hide (fun w (hB : Bk w w2.heap.size #[.slice (some ⟨c, 0, none⟩) K.length cap, .slice ta TT.length tc] 42) hA hS => i_concatM w2.heap.size 2 K TT (some ⟨c, 0, none⟩) ta cap tc w (by omega) (by omega) hB hA hS)

    have hUh := hide (show TT.take (40 - K.length) = TT from List.take_of_length_le hmn)
    clear hlen hta hRT ho

    have hW0 : w.heap.size < w2.heap.size := by have := M0.1; omega
    have hW1 : w.heap.size + 1 < w2.heap.size := M1.1
    have dZ : Below w2.heap.size w2 w2 := Below.refl _ _
    have BN : Bk (w2.alloc (.cells #[.slice (some ⟨c, 0, none⟩) K.length cap, .slice ta TT.length tc] 42)) w2.heap.size #[.slice (some ⟨c, 0, none⟩) K.length cap, .slice ta TT.length tc] 42 := Bk.new _ _ _
    have dN : Below w2.heap.size w2 (w2.alloc (.cells #[.slice (some ⟨c, 0, none⟩) K.length cap, .slice ta TT.length tc] 42)) := below_box (Below.refl _ _)
    have p0 := M1.2.1 0 _ rfl
    have p1 := M1.2.1 1 _ rfl
    have p2 := M1.2.1 2 _ rfl
    have a0 := M1.2.2 0 (by simp)
    have a1 := M1.2.2 1 (by simp)
    have a2 := M1.2.2 2 (by simp)
    go_region_held3 (fun w' => w'.cell? ⟨w.heap.size, 1, none⟩ = some (.slice (some ⟨c, 0, none⟩) K.length cap))
      (first | go_keep | exact (dB.cell (p := ⟨w.heap.size, 1, none⟩) hW0).trans u1 | exact (dB.drew.cell (p := ⟨w.heap.size, 1, none⟩) hW0).trans u1 | exact (dN.cell (p := ⟨w.heap.size, 1, none⟩) hW0).trans u1 | exact (dN.drew.cell (p := ⟨w.heap.size, 1, none⟩) hW0).trans u1 | exact (dZ.cell (p := ⟨w.heap.size, 1, none⟩) hW0).trans u1 | exact (dZ.drew.cell (p := ⟨w.heap.size, 1, none⟩) hW0).trans u1 | (show _ = _; simp [go_sem, *]))
      (first | (go_at_call 85; refine (CC.out _ (by first | exact BN | exact BN.below (Below.refl _ _).drew) ⟨by first | exact R2.below dN | exact R2.below dN.drew, .inr ⟨_, _, rfl⟩⟩ ⟨by first | exact hsrc.1.below dN | exact hsrc.1.below dN.drew, hsrc.2⟩).mono ?_; rintro e wB ⟨v', rfl, hown, bB⟩; have dB : Below w2.heap.size w2 wB := (by first | exact dN.trans (bB.mono dN.size) | exact dN.drew.trans (bB.mono dN.size)); have hown : ∃ J, Hid (K ++ TT = J) ∧ OwnM w2.heap.size v' J wB := ⟨_, rfl, ownM_base hown dN.size⟩; obtain ⟨J, hJ, hown⟩ := hown; obtain ⟨a', c', g', rfl, hg', O'⟩ := WrM.own hown; have u1B := (dB.cell (p := ⟨w.heap.size, 1, none⟩) hW0).trans u1; have p0 := (dB.cell (p := ⟨w.heap.size + 1, 0, none⟩) hW1).trans p0; have p1 := (dB.cell (p := ⟨w.heap.size + 1, 1, none⟩) hW1).trans p1; have p2 := (dB.cell (p := ⟨w.heap.size + 1, 2, none⟩) hW1).trans p2; have a0 := (dB.frozen (p := ⟨w.heap.size + 1, 0, none⟩) hW1).trans a0; have a1 := (dB.frozen (p := ⟨w.heap.size + 1, 1, none⟩) hW1).trans a1; have a2 := (dB.frozen (p := ⟨w.heap.size + 1, 2, none⟩) hW1).trans a2))
    all_goals clear u0 u1 u2
    have d3 := d2.trans (dB.mono d2.size)
    have y4 := dB.size
    go_wp2_with fail
    have o1 : Only (w.heap.size + 1) wB (((wB.setCell ⟨w.heap.size + 1, 0, none⟩ (.string X')).setCell ⟨w.heap.size + 1, 1, none⟩ (.slice a' J.length c')).setCell ⟨w.heap.size + 1, 2, none⟩ (.int .i64 B')) := (((Only.refl _ _).setCell _ _).setCell _ _).setCell _ _
    have O4 := O'.only o1 (fun h => by have := hg' h; omega)
    have d5 := d3.trans ((o1.below (by omega)).mono (by omega))
    have hF : J ≠ [] → w.heap.size ≤ g' := fun h => by have := hg' h; omega
    clear o1 O' d3
    exact bodyPost_ret (v := .tuple #[.agg #[.string X', .slice a' J.length c', .int .i64 B'], .bool true]) (by simp [results, Try.results41, go_sem, *]) rfl ⟨_, rfl, a', c', g', by rw [hUh.out, hJ.out], by rw [hUh.out, hJ.out]; exact hF, by rw [hUh.out, hJ.out]; exact O4, d5⟩
  · have hlen : (TT.take (40 - K.length)).length = (40 - K.length) := by rw [List.length_take]; omega
    have hmI : ¬ ((TT.length : Int) ≤ 40 - (K.length : Int)) := by omega
    go_wp2_with fail
    clear h40
    have hrc : (40 - K.length) ≤ tc := by
      rcases hta with ⟨_, _, rfl⟩ | ⟨g, _, _, _, h5, _⟩
      · simp at hmn ⊢
      · omega
    have hrcI : (((40 - K.length) : Nat) : Int) ≤ (tc : Int) := by omega
    have hsrc : SrcM ta (TT.take (40 - K.length)) tc w2 := ⟨hRT.take _, by
      rcases hta with ⟨e1, e2, e3⟩ | ⟨g, e1, _⟩
      · exact .inl ⟨e1, by rw [e3]; simp, e2⟩
      · exact .inr ⟨g, 0, e1⟩⟩
    have CC := hide (fun w (hB : Bk w w2.heap.size #[.slice (some ⟨c, 0, none⟩) K.length cap, .slice ta (TT.take (40 - K.length)).length tc] 42) hA hS => i_concatM w2.heap.size 2 K (TT.take (40 - K.length)) (some ⟨c, 0, none⟩) ta cap tc w (by omega) (by rw [hlen]; omega) hB hA hS)
    rw [hlen] at CC

    clear hlen hta hRT ho
    generalize hUU : TT.take (40 - K.length) = U at *
    have hUh := hide hUU
    clear hUU
    have hW0 : w.heap.size < w2.heap.size := by have := M0.1; omega
    have hW1 : w.heap.size + 1 < w2.heap.size := M1.1
    have dZ : Below w2.heap.size w2 w2 := Below.refl _ _
    have BN : Bk (w2.alloc (.cells #[.slice (some ⟨c, 0, none⟩) K.length cap, .slice ta (40 - K.length) tc] 42)) w2.heap.size #[.slice (some ⟨c, 0, none⟩) K.length cap, .slice ta (40 - K.length) tc] 42 := Bk.new _ _ _
    have dN : Below w2.heap.size w2 (w2.alloc (.cells #[.slice (some ⟨c, 0, none⟩) K.length cap, .slice ta (40 - K.length) tc] 42)) := below_box (Below.refl _ _)
    have p0 := M1.2.1 0 _ rfl
    have p1 := M1.2.1 1 _ rfl
    have p2 := M1.2.1 2 _ rfl
    have a0 := M1.2.2 0 (by simp)
    have a1 := M1.2.2 1 (by simp)
    have a2 := M1.2.2 2 (by simp)
    go_region_held3 (fun w' => w'.cell? ⟨w.heap.size, 1, none⟩ = some (.slice (some ⟨c, 0, none⟩) K.length cap))
      (first | go_keep | exact (dB.cell (p := ⟨w.heap.size, 1, none⟩) hW0).trans u1 | exact (dB.drew.cell (p := ⟨w.heap.size, 1, none⟩) hW0).trans u1 | exact (dN.cell (p := ⟨w.heap.size, 1, none⟩) hW0).trans u1 | exact (dN.drew.cell (p := ⟨w.heap.size, 1, none⟩) hW0).trans u1 | exact (dZ.cell (p := ⟨w.heap.size, 1, none⟩) hW0).trans u1 | exact (dZ.drew.cell (p := ⟨w.heap.size, 1, none⟩) hW0).trans u1 | (show _ = _; simp [go_sem, *]))
      (first | (go_at_call 85; refine (CC.out _ (by first | exact BN | exact BN.below (Below.refl _ _).drew) ⟨by first | exact R2.below dN | exact R2.below dN.drew, .inr ⟨_, _, rfl⟩⟩ ⟨by first | exact hsrc.1.below dN | exact hsrc.1.below dN.drew, hsrc.2⟩).mono ?_; rintro e wB ⟨v', rfl, hown, bB⟩; have dB : Below w2.heap.size w2 wB := (by first | exact dN.trans (bB.mono dN.size) | exact dN.drew.trans (bB.mono dN.size)); have hown : ∃ J, Hid (K ++ U = J) ∧ OwnM w2.heap.size v' J wB := ⟨_, rfl, ownM_base hown dN.size⟩; obtain ⟨J, hJ, hown⟩ := hown; obtain ⟨a', c', g', rfl, hg', O'⟩ := WrM.own hown; have u1B := (dB.cell (p := ⟨w.heap.size, 1, none⟩) hW0).trans u1; have p0 := (dB.cell (p := ⟨w.heap.size + 1, 0, none⟩) hW1).trans p0; have p1 := (dB.cell (p := ⟨w.heap.size + 1, 1, none⟩) hW1).trans p1; have p2 := (dB.cell (p := ⟨w.heap.size + 1, 2, none⟩) hW1).trans p2; have a0 := (dB.frozen (p := ⟨w.heap.size + 1, 0, none⟩) hW1).trans a0; have a1 := (dB.frozen (p := ⟨w.heap.size + 1, 1, none⟩) hW1).trans a1; have a2 := (dB.frozen (p := ⟨w.heap.size + 1, 2, none⟩) hW1).trans a2))
    all_goals clear u0 u1 u2
    have d3 := d2.trans (dB.mono d2.size)
    have y4 := dB.size
    go_wp2_with fail
    have o1 : Only (w.heap.size + 1) wB (((wB.setCell ⟨w.heap.size + 1, 0, none⟩ (.string X')).setCell ⟨w.heap.size + 1, 1, none⟩ (.slice a' J.length c')).setCell ⟨w.heap.size + 1, 2, none⟩ (.int .i64 B')) := (((Only.refl _ _).setCell _ _).setCell _ _).setCell _ _
    have O4 := O'.only o1 (fun h => by have := hg' h; omega)
    have d5 := d3.trans ((o1.below (by omega)).mono (by omega))
    have hF : J ≠ [] → w.heap.size ≤ g' := fun h => by have := hg' h; omega
    clear o1 O' d3
    exact bodyPost_ret (v := .tuple #[.agg #[.string X', .slice a' J.length c', .int .i64 B'], .bool true]) (by simp [results, Try.results41, go_sem, *]) rfl ⟨_, rfl, a', c', g', by rw [hUh.out, hJ.out], by rw [hUh.out, hJ.out]; exact hF, by rw [hUh.out, hJ.out]; exact O4, d5⟩
end Go.Proofs.Ytoeephmdklmpfaa
