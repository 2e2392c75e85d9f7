/- What the specification's InsertIn answers. -/
import Derived.Test.YtjmflkheaioboabS2f
import Derived.Deep.RegionHeld3
import Derived.Deep.AppendLies
namespace Go.Proofs.Ytjmflkheaioboab
open Go.RowKit

theorem ok_of_treeS {ts : List Nd} (h : treeB ts.length (nAt ts) = true) : OkT ts := by
  intro i hi
  obtain ⟨h1, h2⟩ := tree_half h hi
  omega
set_option maxRecDepth 100000 in
set_option maxHeartbeats 3200000 in
theorem s_insertIn_yes (b0 off0 cap : Nat) (ts : List Nd) (a l val : Int) (w : World) (hl : ts.length ≤ 1048576) (hE : RowT (some ⟨b0, off0, none⟩) ts.length (nAt ts) w)
    (hg : trieB ts.length (nAt ts) = true) (hp : goodB a l = true) (h2 : trieB (insT a l.toNat val ts).length (nAt (insT a l.toNat val ts)) = true) :
    Calls Try.prog 34 #[.slice (some ⟨b0, off0, none⟩) ts.length cap, .agg #[.int .i64 a, .int .i64 l], .int .i64 val] w fun e w' => ∃ v', e = .returned (.tuple #[v', .bool true]) ∧ OwnT w.heap.size v' (insT a l.toNat val ts) w' ∧ Below w.heap.size w w' := by
  obtain ⟨i0, hi, hz0, hz1, hz2⟩ := info_parts infoNode
  have s1 := hide (fun w hE => s_goodTrie (some ⟨b0, off0, none⟩) ts.length cap (nAt ts) w hl hE)
  have hE1 := fun o => hE.below (below_box (Below.refl (w.alloc o).heap.size (w.alloc o)))
  have s2 := hide (fun w => s_good a l w)
  obtain ⟨⟨hn1, hn2⟩, htr, _⟩ := trieB_parts hg
  have hok := ok_of_treeS htr
  obtain ⟨⟨hl0, hl1⟩, ⟨ha0, ha1⟩, _⟩ := goodB_iff.1 hp
  obtain ⟨L, rfl⟩ := Int.eq_ofNat_of_zero_le hl0
  rw [Int.toNat_natCast] at *
  have hlen := insT_len hok hn1 a L val
  have hpos : 0 < (insT a L val ts).length := by omega
  have s4 := hide (fun base v w hb ho => s_insert base v ts a L val w hb ho hok hn1 (by omega) (by omega) ha0 ha1)
  have s5 := hide (fun g c w hE => s_goodTrie (some ⟨g, 0, none⟩) (insT a L val ts).length c (nAt (insT a L val ts)) w (by omega) hE)
  rw [hg] at s1
  rw [hp] at s2
  rw [h2] at s5
  clear hg hp h2 htr hok hlen
  generalize hl' : (L : Int) = l at *
  go_enter Try.func34, Try.ntmps34
  go_wp2_with fail
  refine (s1.out _ (hE1 _)).mono ?_
  rintro e w1 ⟨rfl, hb1⟩
  have hb := below_box hb1
  have p0 := ((bcell hb1).1 w.heap.size 0 (by simp)).trans (show _ = some (.int .i64 a) by simp [go_sem])
  have p1 := ((bcell hb1).1 w.heap.size 1 (by simp)).trans (show _ = some (.int .i64 l) by simp [go_sem])
  have hlt1 : w.heap.size < w1.heap.size := by have := hb1.size; simp at this; omega
  go_wp2_with fail
  refine (s2.out _).mono ?_
  rintro e w2 ⟨rfl, hb2⟩
  have p0 := ((bcell hb2).1 w.heap.size 0 hlt1).trans p0
  have p1 := ((bcell hb2).1 w.heap.size 1 hlt1).trans p1
  have hb := below_step hb hb2
  have hlt2 : w.heap.size < w2.heap.size := Nat.lt_of_lt_of_le hlt1 hb2.size
  clear hb1 hb2
  have hE2 := hE.below hb
  have hmade := World.ownsRow_made (e := 70) (size := 4) (base := w2.heap.size) w2 #[] 0 (Nat.le_refl _) (by decide) (by decide)
  go_wp2_with fail
  go_region_held3 (fun w' => w'.cell? ⟨w.heap.size, 0, none⟩ = some (.int .i64 a) ∧ w'.cell? ⟨w.heap.size, 1, none⟩ = some (.int .i64 l))
    (first
      | go_keep
      | exact ⟨(hb5.cell (p := ⟨w.heap.size, 0, none⟩) hlt2).trans p0, (hb5.cell (p := ⟨w.heap.size, 1, none⟩) hlt2).trans p1⟩
      | exact ⟨(hb5.drew.cell (p := ⟨w.heap.size, 0, none⟩) hlt2).trans p0, (hb5.drew.cell (p := ⟨w.heap.size, 1, none⟩) hlt2).trans p1⟩
      | exact ⟨(hb3.cell (p := ⟨w.heap.size, 0, none⟩) hlt2).trans p0, (hb3.cell (p := ⟨w.heap.size, 1, none⟩) hlt2).trans p1⟩
      | exact ⟨(hb3.drew.cell (p := ⟨w.heap.size, 0, none⟩) hlt2).trans p0, (hb3.drew.cell (p := ⟨w.heap.size, 1, none⟩) hlt2).trans p1⟩)
    ((first
      | (refine step_append_lies _ (by rfl) _ _ _ (by rfl) w2.heap.size 70 i0 _ 4 32 Try.underlying37 hi hz0 hz1 hz2 rfl (by omega) (.slice (some ⟨w2.heap.size, 0, none⟩) 0 0) 0 [] (by rfl) (by first | exact hmade | exact hmade.drew | exact (hmade.drew).drew) ⟨b0, off0, none⟩ ts.length cap (tcells ts) (by rfl) (tc_len ts) (by first | exact rowT_cells (hE2.below ((below_box (Below.refl _ _)).drew)) | exact rowT_cells (hE2.below (below_box (Below.refl _ _)))) (tc_one ts) (by omega) (by unfold maxLen; omega) (by omega) (by simp) (w2.heap.size + 1) (by simp) ?_; intro g1 c1 w3 hown1 hgrow hat hlt3; have hT1 : OwnT w2.heap.size (.slice (some ⟨g1, 0, none⟩) ts.length c1) ts w3 := (by unfold OwnT; simpa using hown1); have hgb : Below w2.heap.size _ w3 := grown_belowT hgrow (by intro y hy; simp only [Value.ownBlock, Option.some.injEq] at hy; omega) (by simp); have hb3 : Below w2.heap.size w2 w3 := (below_box (Below.refl _ _)).drew.trans hgb)
      | (go_at_call 63; refine (s4.out w2.heap.size _ _ (by have := hb3.size; simp; omega) (by first | exact ownT_below hT1 (Below.refl _ _).drew | exact hT1)).mono ?_; rintro e w4 ⟨v', rfl, ho, hb4⟩; obtain ⟨g, c, rfl, hg0, hg1⟩ := ownT_shape ho hpos; have hb5 : Below w2.heap.size w2 w4 := (by first | exact hb3.trans hb4 | exact hb3.drew.trans hb4))))
  have hbz := hb.trans (hb5.mono hb.size)
  go_wp2_with fail
  refine (s5.out _ _ _ (ownT_row ho hg1)).mono ?_
  rintro e w6 ⟨rfl, hb6⟩
  have hbf := hbz.trans (hb6.mono hbz.size)
  go_wp2_with fail
  refine bodyPost_ret (v := .tuple #[.slice (some ⟨g, 0, none⟩) (insT a L val ts).length c, .bool true]) (by simp [results, Try.results34, go_sem]) rfl ⟨_, rfl, ownT_below (own_base ho hb.size) hb6, hbf⟩
set_option maxRecDepth 100000 in
set_option maxHeartbeats 3200000 in
theorem s_insertIn_no2 (b0 off0 cap : Nat) (ts : List Nd) (a l val : Int) (w : World) (hl : ts.length ≤ 1048576) (hE : RowT (some ⟨b0, off0, none⟩) ts.length (nAt ts) w)
    (hg : trieB ts.length (nAt ts) = true) (hp : goodB a l = true) (h2 : trieB (insT a l.toNat val ts).length (nAt (insT a l.toNat val ts)) = false) :
    Calls Try.prog 34 #[.slice (some ⟨b0, off0, none⟩) ts.length cap, .agg #[.int .i64 a, .int .i64 l], .int .i64 val] w fun e w' => e = .returned (.tuple #[.slice none 0 0, .bool false]) ∧ Below w.heap.size w w' := by
  obtain ⟨i0, hi, hz0, hz1, hz2⟩ := info_parts infoNode
  have s1 := hide (fun w hE => s_goodTrie (some ⟨b0, off0, none⟩) ts.length cap (nAt ts) w hl hE)
  have hE1 := fun o => hE.below (below_box (Below.refl (w.alloc o).heap.size (w.alloc o)))
  have s2 := hide (fun w => s_good a l w)
  obtain ⟨⟨hn1, hn2⟩, htr, _⟩ := trieB_parts hg
  have hok := ok_of_treeS htr
  obtain ⟨⟨hl0, hl1⟩, ⟨ha0, ha1⟩, _⟩ := goodB_iff.1 hp
  obtain ⟨L, rfl⟩ := Int.eq_ofNat_of_zero_le hl0
  rw [Int.toNat_natCast] at *
  have hlen := insT_len hok hn1 a L val
  have hpos : 0 < (insT a L val ts).length := by omega
  have s4 := hide (fun base v w hb ho => s_insert base v ts a L val w hb ho hok hn1 (by omega) (by omega) ha0 ha1)
  have s5 := hide (fun g c w hE => s_goodTrie (some ⟨g, 0, none⟩) (insT a L val ts).length c (nAt (insT a L val ts)) w (by omega) hE)
  rw [hg] at s1
  rw [hp] at s2
  rw [h2] at s5
  clear hg hp h2 htr hok hlen
  generalize hl' : (L : Int) = l at *
  go_enter Try.func34, Try.ntmps34
  go_wp2_with fail
  refine (s1.out _ (hE1 _)).mono ?_
  rintro e w1 ⟨rfl, hb1⟩
  have hb := below_box hb1
  have p0 := ((bcell hb1).1 w.heap.size 0 (by simp)).trans (show _ = some (.int .i64 a) by simp [go_sem])
  have p1 := ((bcell hb1).1 w.heap.size 1 (by simp)).trans (show _ = some (.int .i64 l) by simp [go_sem])
  have hlt1 : w.heap.size < w1.heap.size := by have := hb1.size; simp at this; omega
  go_wp2_with fail
  refine (s2.out _).mono ?_
  rintro e w2 ⟨rfl, hb2⟩
  have p0 := ((bcell hb2).1 w.heap.size 0 hlt1).trans p0
  have p1 := ((bcell hb2).1 w.heap.size 1 hlt1).trans p1
  have hb := below_step hb hb2
  have hlt2 : w.heap.size < w2.heap.size := Nat.lt_of_lt_of_le hlt1 hb2.size
  clear hb1 hb2
  have hE2 := hE.below hb
  have hmade := World.ownsRow_made (e := 70) (size := 4) (base := w2.heap.size) w2 #[] 0 (Nat.le_refl _) (by decide) (by decide)
  go_wp2_with fail
  go_region_held3 (fun w' => w'.cell? ⟨w.heap.size, 0, none⟩ = some (.int .i64 a) ∧ w'.cell? ⟨w.heap.size, 1, none⟩ = some (.int .i64 l))
    (first
      | go_keep
      | exact ⟨(hb5.cell (p := ⟨w.heap.size, 0, none⟩) hlt2).trans p0, (hb5.cell (p := ⟨w.heap.size, 1, none⟩) hlt2).trans p1⟩
      | exact ⟨(hb5.drew.cell (p := ⟨w.heap.size, 0, none⟩) hlt2).trans p0, (hb5.drew.cell (p := ⟨w.heap.size, 1, none⟩) hlt2).trans p1⟩
      | exact ⟨(hb3.cell (p := ⟨w.heap.size, 0, none⟩) hlt2).trans p0, (hb3.cell (p := ⟨w.heap.size, 1, none⟩) hlt2).trans p1⟩
      | exact ⟨(hb3.drew.cell (p := ⟨w.heap.size, 0, none⟩) hlt2).trans p0, (hb3.drew.cell (p := ⟨w.heap.size, 1, none⟩) hlt2).trans p1⟩)
    ((first
      | (refine step_append_lies _ (by rfl) _ _ _ (by rfl) w2.heap.size 70 i0 _ 4 32 Try.underlying37 hi hz0 hz1 hz2 rfl (by omega) (.slice (some ⟨w2.heap.size, 0, none⟩) 0 0) 0 [] (by rfl) (by first | exact hmade | exact hmade.drew | exact (hmade.drew).drew) ⟨b0, off0, none⟩ ts.length cap (tcells ts) (by rfl) (tc_len ts) (by first | exact rowT_cells (hE2.below ((below_box (Below.refl _ _)).drew)) | exact rowT_cells (hE2.below (below_box (Below.refl _ _)))) (tc_one ts) (by omega) (by unfold maxLen; omega) (by omega) (by simp) (w2.heap.size + 1) (by simp) ?_; intro g1 c1 w3 hown1 hgrow hat hlt3; have hT1 : OwnT w2.heap.size (.slice (some ⟨g1, 0, none⟩) ts.length c1) ts w3 := (by unfold OwnT; simpa using hown1); have hgb : Below w2.heap.size _ w3 := grown_belowT hgrow (by intro y hy; simp only [Value.ownBlock, Option.some.injEq] at hy; omega) (by simp); have hb3 : Below w2.heap.size w2 w3 := (below_box (Below.refl _ _)).drew.trans hgb)
      | (go_at_call 63; refine (s4.out w2.heap.size _ _ (by have := hb3.size; simp; omega) (by first | exact ownT_below hT1 (Below.refl _ _).drew | exact hT1)).mono ?_; rintro e w4 ⟨v', rfl, ho, hb4⟩; obtain ⟨g, c, rfl, hg0, hg1⟩ := ownT_shape ho hpos; have hb5 : Below w2.heap.size w2 w4 := (by first | exact hb3.trans hb4 | exact hb3.drew.trans hb4))))
  have hbz := hb.trans (hb5.mono hb.size)
  go_wp2_with fail
  refine (s5.out _ _ _ (ownT_row ho hg1)).mono ?_
  rintro e w6 ⟨rfl, hb6⟩
  have hbf := hbz.trans (hb6.mono hbz.size)
  go_wp2_with fail
  refine bodyPost_ret (v := .tuple #[.slice none 0 0, .bool false]) (by simp [results, Try.results34, go_sem]) rfl ⟨rfl, hbf⟩
set_option maxRecDepth 100000 in
set_option maxHeartbeats 1600000 in
theorem s_insertIn_no1 (a0 : Option Addr) (n cap : Nat) (T : Nat → Nd) (a l val : Int) (w : World) (hl : n ≤ 1048576) (hE : RowT a0 n T w) (hg : trieB n T = false ∨ goodB a l = false) :
    Calls Try.prog 34 #[.slice a0 n cap, .agg #[.int .i64 a, .int .i64 l], .int .i64 val] w fun e w' => e = .returned (.tuple #[.slice none 0 0, .bool false]) ∧ Below w.heap.size w w' := by
  have s1 := hide (fun w hE => s_goodTrie a0 n cap T w hl hE)
  have hE1 := fun o => hE.below (below_box (Below.refl (w.alloc o).heap.size (w.alloc o)))
  have s2 := hide (fun w => s_good a l w)
  cases hgt : trieB n T with
  | false =>
    rw [hgt] at s1
    clear hg hgt
    go_enter Try.func34, Try.ntmps34
    go_wp2_with fail
    refine (s1.out _ (hE1 _)).mono ?_
    rintro e w1 ⟨rfl, hb1⟩
    have hb := below_box hb1
    have p0 := ((bcell hb1).1 w.heap.size 0 (by simp)).trans (show _ = some (.int .i64 a) by simp [go_sem])
    have p1 := ((bcell hb1).1 w.heap.size 1 (by simp)).trans (show _ = some (.int .i64 l) by simp [go_sem])
    have hlt1 : w.heap.size < w1.heap.size := by have := hb1.size; simp at this; omega
    go_wp2_with fail
    refine bodyPost_ret (v := .tuple #[.slice none 0 0, .bool false]) (by simp [results, Try.results34, go_sem]) rfl ⟨rfl, hb⟩
  | true =>
    have hp : goodB a l = false := by
      rcases hg with h | h
      · rw [hgt] at h; simp at h
      · exact h
    rw [hgt] at s1
    rw [hp] at s2
    clear hg hgt hp
    go_enter Try.func34, Try.ntmps34
    go_wp2_with fail
    refine (s1.out _ (hE1 _)).mono ?_
    rintro e w1 ⟨rfl, hb1⟩
    have hb := below_box hb1
    have p0 := ((bcell hb1).1 w.heap.size 0 (by simp)).trans (show _ = some (.int .i64 a) by simp [go_sem])
    have p1 := ((bcell hb1).1 w.heap.size 1 (by simp)).trans (show _ = some (.int .i64 l) by simp [go_sem])
    have hlt1 : w.heap.size < w1.heap.size := by have := hb1.size; simp at this; omega
    go_wp2_with fail
    refine (s2.out _).mono ?_
    rintro e w2 ⟨rfl, hb2⟩
    have p0 := ((bcell hb2).1 w.heap.size 0 hlt1).trans p0
    have p1 := ((bcell hb2).1 w.heap.size 1 hlt1).trans p1
    have hb := below_step hb hb2
    have hlt2 : w.heap.size < w2.heap.size := Nat.lt_of_lt_of_le hlt1 hb2.size
    clear hb1 hb2
    go_wp2_with fail
    refine bodyPost_ret (v := .tuple #[.slice none 0 0, .bool false]) (by simp [results, Try.results34, go_sem]) rfl ⟨rfl, hb⟩
end Go.Proofs.Ytjmflkheaioboab
