/- What the program's InsertIn answers. -/
import Derived.Test.YtjmflkheaioboabI2i
namespace Go.Proofs.Ytjmflkheaioboab
open Go.RowKit

theorem ok_of_tree {ts : List Nd} (h : treeB ts.length (nAt ts) = true) : OkT ts := by
  intro i hi
  obtain ⟨h1, h2⟩ := tree_half h hi
  omega
theorem val_bad {ts : List Nd} (h : OkT ts) (h0 : 0 < ts.length) (a : Int) (L : Nat) (val : Int) (hv : inB val 0 1000000 = false) : trieB (insT a L val ts).length (nAt (insT a L val ts)) = false := by
  have hi := insTo_ok h h0 a L
  refine trieB_f2 (entsB_no (k := (insTo a ts L).2) ?_ ?_)
  · unfold insT; rw [List.length_set]; exact hi.lt
  · have e : nAt (insT a L val ts) (insTo a ts L).2 = { nAt (insTo a ts L).1 (insTo a ts L).2 with h := true, v := val } := by
      unfold insT
      rw [nAt_set hi.lt, if_pos rfl]
    unfold ndOk
    rw [e]
    simp [hv]

set_option maxRecDepth 100000 in
set_option maxHeartbeats 1600000 in
theorem i_insertIn_yes (b0 off0 cap : Nat) (ts : List Nd) (a l val : Int) (w : World) (hl : ts.length ≤ 1048576) (hE : RowT (some ⟨b0, off0, none⟩) ts.length (nAt ts) w)
    (hg : trieB ts.length (nAt ts) = true) (hp : goodB a l = true) (h2 : trieB (insT a l.toNat val ts).length (nAt (insT a l.toNat val ts)) = true) :
    Calls Try.prog 36 #[.slice (some ⟨b0, off0, none⟩) ts.length cap, .agg #[.int .i64 a, .int .i64 l], .int .i64 val] w fun e w' => ∃ v', e = .returned (.tuple #[v', .bool true]) ∧ OwnT w.heap.size v' (insT a l.toNat val ts) w' ∧ Below w.heap.size w w' := by
  have s1 := hide (fun w hE => i_goodTrie (some ⟨b0, off0, none⟩) ts.length cap (nAt ts) w hl hE)
  have hE1 := fun o => hE.below (below_box (Below.refl (w.alloc o).heap.size (w.alloc o)))
  have s2 := hide (fun w => i_good a l w)
  have s3 := hide (fun w => i_value val w)
  obtain ⟨⟨hn1, hn2⟩, htr, _⟩ := trieB_parts hg
  have hok := ok_of_tree htr
  obtain ⟨⟨hl0, hl1⟩, ⟨ha0, ha1⟩, _⟩ := goodB_iff.1 hp
  obtain ⟨L, rfl⟩ := Int.eq_ofNat_of_zero_le hl0
  rw [Int.toNat_natCast] at *
  have hlen := insT_len hok hn1 a L val
  have hpos : 0 < (insT a L val ts).length := by omega
  have s4 := hide (fun w hE => i_withEntry b0 off0 cap ts a L val w hE hok hn1 (by omega) (by omega) ha0 ha1)
  have s5 := hide (fun g c w hE => i_goodTrie (some ⟨g, 0, none⟩) (insT a L val ts).length c (nAt (insT a L val ts)) w (by omega) hE)
  have hv : inB val 0 1000000 = true := by
    cases hv : inB val 0 1000000 with
    | true => rfl
    | false => rw [val_bad hok hn1 a L val hv] at h2; simp at h2
  rw [hg] at s1
  rw [hp] at s2
  rw [hv] at s3
  rw [h2] at s5
  clear hg hp hv h2 htr hok hlen
  generalize hl' : (L : Int) = l at *
  go_enter Try.func36, Try.ntmps36
  go_wp2_with fail
  refine (s1.out _ (hE1 _)).mono ?_
  rintro e w1 ⟨rfl, hb1⟩
  have hb := below_box hb1
  have p0 := ((bcell hb1).1 w.heap.size 0 (by simp)).trans (show _ = some (.int .i64 a) by simp [go_sem])
  have p1 := ((bcell hb1).1 w.heap.size 1 (by simp)).trans (show _ = some (.int .i64 l) by simp [go_sem])
  have hlt1 : w.heap.size < w1.heap.size := by have := hb1.size; simp at this; omega
  go_wp2_with fail
  refine (s2.out _).mono ?_
  rintro e w2 ⟨rfl, hb2⟩
  have p0 := ((bcell hb2).1 w.heap.size 0 hlt1).trans p0
  have p1 := ((bcell hb2).1 w.heap.size 1 hlt1).trans p1
  have hb := below_step hb hb2
  go_wp2_with fail
  refine (s3.out _).mono ?_
  rintro e w3 ⟨rfl, rfl⟩
  go_wp2_with fail
  refine (s4.out _ (hE.below hb)).mono ?_
  rintro e w4 ⟨v', rfl, ho, hb4⟩
  have hbz := hb.trans (hb4.mono hb.size)
  obtain ⟨g, c, rfl, hg0, hg1⟩ := ownT_shape ho hpos
  go_wp2_with fail
  refine (s5.out _ _ _ (ownT_row ho hg1)).mono ?_
  rintro e w5 ⟨rfl, hb5⟩
  have hbf := hbz.trans (hb5.mono hbz.size)
  go_wp2_with fail
  refine bodyPost_ret (v := .tuple #[.slice (some ⟨g, 0, none⟩) (insT a L val ts).length c, .bool true]) (by simp [results, Try.results36, go_sem]) rfl ⟨_, rfl, ownT_below (own_base ho hb.size) hb5, hbf⟩
set_option maxRecDepth 100000 in
set_option maxHeartbeats 1600000 in
theorem i_insertIn_no2 (b0 off0 cap : Nat) (ts : List Nd) (a l val : Int) (w : World) (hl : ts.length ≤ 1048576) (hE : RowT (some ⟨b0, off0, none⟩) ts.length (nAt ts) w)
    (hg : trieB ts.length (nAt ts) = true) (hp : goodB a l = true) (h2 : trieB (insT a l.toNat val ts).length (nAt (insT a l.toNat val ts)) = false) :
    Calls Try.prog 36 #[.slice (some ⟨b0, off0, none⟩) ts.length cap, .agg #[.int .i64 a, .int .i64 l], .int .i64 val] w fun e w' => e = .returned (.tuple #[.slice none 0 0, .bool false]) ∧ Below w.heap.size w w' := by
  have s1 := hide (fun w hE => i_goodTrie (some ⟨b0, off0, none⟩) ts.length cap (nAt ts) w hl hE)
  have hE1 := fun o => hE.below (below_box (Below.refl (w.alloc o).heap.size (w.alloc o)))
  have s2 := hide (fun w => i_good a l w)
  have s3 := hide (fun w => i_value val w)
  obtain ⟨⟨hn1, hn2⟩, htr, _⟩ := trieB_parts hg
  have hok := ok_of_tree htr
  obtain ⟨⟨hl0, hl1⟩, ⟨ha0, ha1⟩, _⟩ := goodB_iff.1 hp
  obtain ⟨L, rfl⟩ := Int.eq_ofNat_of_zero_le hl0
  rw [Int.toNat_natCast] at *
  have hlen := insT_len hok hn1 a L val
  have hpos : 0 < (insT a L val ts).length := by omega
  have s4 := hide (fun w hE => i_withEntry b0 off0 cap ts a L val w hE hok hn1 (by omega) (by omega) ha0 ha1)
  have s5 := hide (fun g c w hE => i_goodTrie (some ⟨g, 0, none⟩) (insT a L val ts).length c (nAt (insT a L val ts)) w (by omega) hE)
  rw [hg] at s1
  rw [hp] at s2
  rw [h2] at s5
  cases hv : inB val 0 1000000 with
  | true =>
    rw [hv] at s3
    clear hg hp hv h2 htr hok hlen
    generalize hl' : (L : Int) = l at *
    go_enter Try.func36, Try.ntmps36
    go_wp2_with fail
    refine (s1.out _ (hE1 _)).mono ?_
    rintro e w1 ⟨rfl, hb1⟩
    have hb := below_box hb1
    have p0 := ((bcell hb1).1 w.heap.size 0 (by simp)).trans (show _ = some (.int .i64 a) by simp [go_sem])
    have p1 := ((bcell hb1).1 w.heap.size 1 (by simp)).trans (show _ = some (.int .i64 l) by simp [go_sem])
    have hlt1 : w.heap.size < w1.heap.size := by have := hb1.size; simp at this; omega
    go_wp2_with fail
    refine (s2.out _).mono ?_
    rintro e w2 ⟨rfl, hb2⟩
    have p0 := ((bcell hb2).1 w.heap.size 0 hlt1).trans p0
    have p1 := ((bcell hb2).1 w.heap.size 1 hlt1).trans p1
    have hb := below_step hb hb2
    go_wp2_with fail
    refine (s3.out _).mono ?_
    rintro e w3 ⟨rfl, rfl⟩
    go_wp2_with fail
    refine (s4.out _ (hE.below hb)).mono ?_
    rintro e w4 ⟨v', rfl, ho, hb4⟩
    have hbz := hb.trans (hb4.mono hb.size)
    obtain ⟨g, c, rfl, hg0, hg1⟩ := ownT_shape ho hpos
    go_wp2_with fail
    refine (s5.out _ _ _ (ownT_row ho hg1)).mono ?_
    rintro e w5 ⟨rfl, hb5⟩
    have hbf := hbz.trans (hb5.mono hbz.size)
    go_wp2_with fail
    refine bodyPost_ret (v := .tuple #[.slice none 0 0, .bool false]) (by simp [results, Try.results36, go_sem]) rfl ⟨rfl, hbf⟩
  | false =>
    rw [hv] at s3
    clear hg hp hv h2 htr hok hlen
    generalize hl' : (L : Int) = l at *
    go_enter Try.func36, Try.ntmps36
    go_wp2_with fail
    refine (s1.out _ (hE1 _)).mono ?_
    rintro e w1 ⟨rfl, hb1⟩
    have hb := below_box hb1
    have p0 := ((bcell hb1).1 w.heap.size 0 (by simp)).trans (show _ = some (.int .i64 a) by simp [go_sem])
    have p1 := ((bcell hb1).1 w.heap.size 1 (by simp)).trans (show _ = some (.int .i64 l) by simp [go_sem])
    have hlt1 : w.heap.size < w1.heap.size := by have := hb1.size; simp at this; omega
    go_wp2_with fail
    refine (s2.out _).mono ?_
    rintro e w2 ⟨rfl, hb2⟩
    have p0 := ((bcell hb2).1 w.heap.size 0 hlt1).trans p0
    have p1 := ((bcell hb2).1 w.heap.size 1 hlt1).trans p1
    have hb := below_step hb hb2
    go_wp2_with fail
    refine (s3.out _).mono ?_
    rintro e w3 ⟨rfl, rfl⟩
    go_wp2_with fail
    refine bodyPost_ret (v := .tuple #[.slice none 0 0, .bool false]) (by simp [results, Try.results36, go_sem]) rfl ⟨rfl, hb⟩
set_option maxRecDepth 100000 in
set_option maxHeartbeats 1600000 in
theorem i_insertIn_no1 (a0 : Option Addr) (n cap : Nat) (T : Nat → Nd) (a l val : Int) (w : World) (hl : n ≤ 1048576) (hE : RowT a0 n T w) (hg : trieB n T = false ∨ goodB a l = false) :
    Calls Try.prog 36 #[.slice a0 n cap, .agg #[.int .i64 a, .int .i64 l], .int .i64 val] w fun e w' => e = .returned (.tuple #[.slice none 0 0, .bool false]) ∧ Below w.heap.size w w' := by
  have s1 := hide (fun w hE => i_goodTrie a0 n cap T w hl hE)
  have hE1 := fun o => hE.below (below_box (Below.refl (w.alloc o).heap.size (w.alloc o)))
  have s2 := hide (fun w => i_good a l w)
  cases hgt : trieB n T with
  | false =>
    rw [hgt] at s1
    clear hg hgt
    go_enter Try.func36, Try.ntmps36
    go_wp2_with fail
    refine (s1.out _ (hE1 _)).mono ?_
    rintro e w1 ⟨rfl, hb1⟩
    have hb := below_box hb1
    have p0 := ((bcell hb1).1 w.heap.size 0 (by simp)).trans (show _ = some (.int .i64 a) by simp [go_sem])
    have p1 := ((bcell hb1).1 w.heap.size 1 (by simp)).trans (show _ = some (.int .i64 l) by simp [go_sem])
    have hlt1 : w.heap.size < w1.heap.size := by have := hb1.size; simp at this; omega
    go_wp2_with fail
    refine bodyPost_ret (v := .tuple #[.slice none 0 0, .bool false]) (by simp [results, Try.results36, go_sem]) rfl ⟨rfl, hb⟩
  | true =>
    have hp : goodB a l = false := by
      rcases hg with h | h
      · rw [hgt] at h; simp at h
      · exact h
    rw [hgt] at s1
    rw [hp] at s2
    clear hg hgt hp
    go_enter Try.func36, Try.ntmps36
    go_wp2_with fail
    refine (s1.out _ (hE1 _)).mono ?_
    rintro e w1 ⟨rfl, hb1⟩
    have hb := below_box hb1
    have p0 := ((bcell hb1).1 w.heap.size 0 (by simp)).trans (show _ = some (.int .i64 a) by simp [go_sem])
    have p1 := ((bcell hb1).1 w.heap.size 1 (by simp)).trans (show _ = some (.int .i64 l) by simp [go_sem])
    have hlt1 : w.heap.size < w1.heap.size := by have := hb1.size; simp at this; omega
    go_wp2_with fail
    refine (s2.out _).mono ?_
    rintro e w2 ⟨rfl, hb2⟩
    have p0 := ((bcell hb2).1 w.heap.size 0 hlt1).trans p0
    have p1 := ((bcell hb2).1 w.heap.size 1 hlt1).trans p1
    have hb := below_step hb hb2
    go_wp2_with fail
    refine bodyPost_ret (v := .tuple #[.slice none 0 0, .bool false]) (by simp [results, Try.results36, go_sem]) rfl ⟨rfl, hb⟩
end Go.Proofs.Ytjmflkheaioboab
