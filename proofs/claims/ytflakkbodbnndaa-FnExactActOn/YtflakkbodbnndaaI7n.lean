/- What the program's withComm and withoutComm answer. -/
import Derived.Test.YtflakkbodbnndaaAll14
namespace Go.Proofs.Ytflakkbodbnndaa
open Go.RowKit

/-- A number put into a rising list, where a search says that it belongs. -/
def wcL (L : List Int) (n : Int) : List Int := if L.contains n then L else L.take (L.countP (· < n)) ++ n :: L.drop (L.countP (· < n))
/-- A number taken out of a rising list. -/
def woL (L : List Int) (n : Int) : List Int := if L.contains n then L.take (L.countP (· < n)) ++ L.drop (L.countP (· < n) + 1) else L
theorem own_mut {e : TypeId} {k : IntKind} {base g cap : Nat} {L : List Int} {w : World} (h : OwnN e k base (.slice (some ⟨g, 0, none⟩) L.length cap) L w) : Mut w g (ncells k L) := by
  obtain ⟨hb, hg, h1, h2, hc, hs, hf, hsh⟩ := own_parts h
  exact ⟨hg, hc, fun i _ => hf i⟩
theorem ins_len (L : List Int) (i : Nat) (x : Int) (hi : i ≤ L.length) : (L.take i ++ x :: L.drop i).length = L.length + 1 := by
  simp
  omega
theorem count_lt {L : List Int} {n : Int} (h : L.contains n = true) : L.countP (· < n) < L.length := by
  have hm : n ∈ L := by simpa using h
  rcases Nat.lt_or_ge (L.countP (· < n)) L.length with hl | hl
  · exact hl
  · have he : L.countP (· < n) = L.length := Nat.le_antisymm List.countP_le_length hl
    have := List.countP_eq_length.1 he n hm
    simp at this
set_option maxRecDepth 100000 in
set_option maxHeartbeats 1600000 in
theorem i_withComm (o nx md pf n : Int) (a0 : Option Addr) (n0 c0 : Nat) (base g k : Nat) (L : List Int) (w : World) (hl : L.length ≤ 1048576) (hs : L.Pairwise (· ≤ ·)) (hbs : base ≤ w.heap.size) (O0 : OwnN 3 .i64 base (.slice (some ⟨g, 0, none⟩) L.length k) L w) :
    Calls Try.prog 55 #[.agg #[.int .i64 o, .slice a0 n0 c0, .int .i64 nx, .int .i64 md, .int .i64 pf, .slice (some ⟨g, 0, none⟩) L.length k], .int .i64 n] w fun e w' => ∃ c cp, e = .returned (.agg #[.int .i64 o, .slice a0 n0 c0, .int .i64 nx, .int .i64 md, .int .i64 pf, .slice (some ⟨c, 0, none⟩) (wcL L n).length cp]) ∧ base ≤ c ∧ Mut w' c (ncells .i64 (wcL L n)) ∧ Below base w w' ∧ Only g w w' ∧ (c = g ∨ w.heap.size ≤ c) := by
  have hg := (own_parts O0).2.1
  have hgb := (own_parts O0).1
  have d0 : Below w.heap.size w ((w.alloc (.cells #[.int .i64 o, .slice a0 n0 c0, .int .i64 nx, .int .i64 md, .int .i64 pf, .slice (some ⟨g, 0, none⟩) L.length k] 33)).alloc (.cells #[.int .i64 0, .slice none 0 0, .int .i64 0, .int .i64 0, .int .i64 0, .slice none 0 0] 33)) := below_box2 (Below.refl _ _)
  have M0 := (Mut.new w #[.int .i64 o, .slice a0 n0 c0, .int .i64 nx, .int .i64 md, .int .i64 pf, .slice (some ⟨g, 0, none⟩) L.length k] 33).alloc (.cells #[.int .i64 0, .slice none 0 0, .int .i64 0, .int .i64 0, .int .i64 0, .slice none 0 0] 33)
  have M1 := Mut.new (w.alloc (.cells #[.int .i64 o, .slice a0 n0 c0, .int .i64 nx, .int .i64 md, .int .i64 pf, .slice (some ⟨g, 0, none⟩) L.length k] 33)) #[.int .i64 0, .slice none 0 0, .int .i64 0, .int .i64 0, .int .i64 0, .slice none 0 0] 33
  have hz : ((w.alloc (.cells #[.int .i64 o, .slice a0 n0 c0, .int .i64 nx, .int .i64 md, .int .i64 pf, .slice (some ⟨g, 0, none⟩) L.length k] 33)).alloc (.cells #[.int .i64 0, .slice none 0 0, .int .i64 0, .int .i64 0, .int .i64 0, .slice none 0 0] 33)).heap.size = w.heap.size + 1 + 1 := by simp
  rw [World.size_alloc] at M1
  have SR := hide (fun w O => i_searchI base g k L n w hl hs O)
  cases hcn : L.contains n with
  | false =>
    have hM : Hid (wcL L n = L.take (L.countP (· < n)) ++ n :: L.drop (L.countP (· < n))) := if_neg (by rw [hcn]; simp)
    have hci : L.countP (· < n) ≤ L.length := List.countP_le_length
    rw [hcn] at SR
    clear hcn
    generalize hcc : L.countP (· < n) = ci at *
    clear hcc
    go_enter Try.func55, Try.ntmps55
    go_wp2_with fail
    generalize (w.alloc (.cells #[.int .i64 o, .slice a0 n0 c0, .int .i64 nx, .int .i64 md, .int .i64 pf, .slice (some ⟨g, 0, none⟩) L.length k] 33)).alloc (.cells #[.int .i64 0, .slice none 0 0, .int .i64 0, .int .i64 0, .int .i64 0, .slice none 0 0] 33) = w0 at *
    refine (SR.out _ (ownN_below O0 d0)).mono ?_
    rintro e w1 ⟨rfl, e1⟩
    have d1 := d0.trans (e1.mono d0.size)
    replace M0 := M0.below e1
    replace M1 := M1.below e1
    have O1 := ownN_below O0 d1
    have hs1 := e1.size
    clear e1 d0
    have m0 := M0.2.1 0 _ rfl
    have m1 := M0.2.1 1 _ rfl
    have m2 := M0.2.1 2 _ rfl
    have m3 := M0.2.1 3 _ rfl
    have m4 := M0.2.1 4 _ rfl
    have m5 := M0.2.1 5 _ rfl
    have r0 := M1.2.1 0 _ rfl
    have r1 := M1.2.1 1 _ rfl
    have r2 := M1.2.1 2 _ rfl
    have r3 := M1.2.1 3 _ rfl
    have r4 := M1.2.1 4 _ rfl
    have r5 := M1.2.1 5 _ rfl
    have z0 := M0.2.2 0 (by simp)
    have z1 := M0.2.2 1 (by simp)
    have z2 := M0.2.2 2 (by simp)
    have z3 := M0.2.2 3 (by simp)
    have z4 := M0.2.2 4 (by simp)
    have z5 := M0.2.2 5 (by simp)
    have q0 := M1.2.2 0 (by simp)
    have q1 := M1.2.2 1 (by simp)
    have q2 := M1.2.2 2 (by simp)
    have q3 := M1.2.2 3 (by simp)
    have q4 := M1.2.2 4 (by simp)
    have q5 := M1.2.2 5 (by simp)
    have dX : Below w1.heap.size w1 (w1.alloc (.cells #[.int .i64 n] 3)) := below_box (Below.refl _ _)
    have hV := heap_alloc_new w1 (.cells #[.int .i64 n] 3)
    have hzX : (w1.alloc (.cells #[.int .i64 n] 3)).heap.size = w1.heap.size + 1 := by simp
    go_wp2_with fail
    generalize w1.alloc (.cells #[.int .i64 n] 3) = w2 at *
    have d2 := d1.trans (dX.mono d1.size)
    replace M0 := M0.below dX
    replace M1 := M1.below dX
    refine (i_insertI base g k ci w1.heap.size L n w2 (ownN_below O1 dX) hci hl (by omega) (by omega) hV).mono ?_
    rintro e w3 ⟨c, cp, rfl, hc, MC, b3, o3, hor⟩
    replace M0 := M0.only o3 (by omega)
    replace M1 := M1.only o3 (by omega)
    have d3 : Below base w w3 := (d2.mono hbs).trans b3
    have u3 : Only g w w3 := (Only.of_below d2).trans o3
    have hs3 := o3.2.2.2.1
    clear m0 m1 m2 m3 m4 m5 r0 r1 r2 r3 r4 r5 z0 z1 z2 z3 z4 z5 q0 q1 q2 q3 q4 q5
    have m0 := M0.2.1 0 _ rfl
    have m1 := M0.2.1 1 _ rfl
    have m2 := M0.2.1 2 _ rfl
    have m3 := M0.2.1 3 _ rfl
    have m4 := M0.2.1 4 _ rfl
    have m5 := M0.2.1 5 _ rfl
    have r0 := M1.2.1 0 _ rfl
    have r1 := M1.2.1 1 _ rfl
    have r2 := M1.2.1 2 _ rfl
    have r3 := M1.2.1 3 _ rfl
    have r4 := M1.2.1 4 _ rfl
    have r5 := M1.2.1 5 _ rfl
    have z0 := M0.2.2 0 (by simp)
    have z1 := M0.2.2 1 (by simp)
    have z2 := M0.2.2 2 (by simp)
    have z3 := M0.2.2 3 (by simp)
    have z4 := M0.2.2 4 (by simp)
    have z5 := M0.2.2 5 (by simp)
    have q0 := M1.2.2 0 (by simp)
    have q1 := M1.2.2 1 (by simp)
    have q2 := M1.2.2 2 (by simp)
    have q3 := M1.2.2 3 (by simp)
    have q4 := M1.2.2 4 (by simp)
    have q5 := M1.2.2 5 (by simp)
    go_wp2_with fail
    refine bodyPost_ret (v := .agg #[.int .i64 o, .slice a0 n0 c0, .int .i64 nx, .int .i64 md, .int .i64 pf, .slice (some ⟨c, 0, none⟩) (L.length + 1) cp]) (by simp [results, Try.results55, go_sem, r0, r1, r2, r3, r4, r5]) rfl ⟨c, cp, by rw [hM.out, ins_len L ci n hci], hc, ?_, ?_, ?_, by omega⟩
    · rw [hM.out]
      iterate 7 refine Mut.other ?_ (by omega) _ _
      exact MC
    · iterate 7 refine Below.setCell ?_ (by first | (show base ≤ w.heap.size; omega) | (show base ≤ w.heap.size + 1; omega)) _
      exact d3
    · iterate 7 refine Only.setNew ?_ (by omega) _ _
      exact u3
  | true =>
    have hM : Hid (wcL L n = L) := if_pos hcn
    have hci : L.countP (· < n) ≤ L.length := List.countP_le_length
    rw [hcn] at SR
    clear hcn
    generalize hcc : L.countP (· < n) = ci at *
    clear hcc
    go_enter Try.func55, Try.ntmps55
    go_wp2_with fail
    generalize (w.alloc (.cells #[.int .i64 o, .slice a0 n0 c0, .int .i64 nx, .int .i64 md, .int .i64 pf, .slice (some ⟨g, 0, none⟩) L.length k] 33)).alloc (.cells #[.int .i64 0, .slice none 0 0, .int .i64 0, .int .i64 0, .int .i64 0, .slice none 0 0] 33) = w0 at *
    refine (SR.out _ (ownN_below O0 d0)).mono ?_
    rintro e w1 ⟨rfl, e1⟩
    have d1 := d0.trans (e1.mono d0.size)
    replace M0 := M0.below e1
    replace M1 := M1.below e1
    have O1 := ownN_below O0 d1
    have hs1 := e1.size
    clear e1 d0
    have m0 := M0.2.1 0 _ rfl
    have m1 := M0.2.1 1 _ rfl
    have m2 := M0.2.1 2 _ rfl
    have m3 := M0.2.1 3 _ rfl
    have m4 := M0.2.1 4 _ rfl
    have m5 := M0.2.1 5 _ rfl
    have r0 := M1.2.1 0 _ rfl
    have r1 := M1.2.1 1 _ rfl
    have r2 := M1.2.1 2 _ rfl
    have r3 := M1.2.1 3 _ rfl
    have r4 := M1.2.1 4 _ rfl
    have r5 := M1.2.1 5 _ rfl
    have z0 := M0.2.2 0 (by simp)
    have z1 := M0.2.2 1 (by simp)
    have z2 := M0.2.2 2 (by simp)
    have z3 := M0.2.2 3 (by simp)
    have z4 := M0.2.2 4 (by simp)
    have z5 := M0.2.2 5 (by simp)
    have q0 := M1.2.2 0 (by simp)
    have q1 := M1.2.2 1 (by simp)
    have q2 := M1.2.2 2 (by simp)
    have q3 := M1.2.2 3 (by simp)
    have q4 := M1.2.2 4 (by simp)
    have q5 := M1.2.2 5 (by simp)
    go_wp2_with fail
    refine bodyPost_ret (v := .agg #[.int .i64 o, .slice a0 n0 c0, .int .i64 nx, .int .i64 md, .int .i64 pf, .slice (some ⟨g, 0, none⟩) L.length k]) (by simp [results, Try.results55, go_sem, r0, r1, r2, r3, r4, r5]) rfl ⟨g, k, by rw [hM.out], hgb, ?_, ?_, ?_, .inl rfl⟩
    · rw [hM.out]
      iterate 6 refine Mut.other ?_ (by omega) _ _
      exact own_mut O1
    · iterate 6 refine Below.setCell ?_ (by show base ≤ w.heap.size + 1; omega) _
      exact d1.mono hbs
    · iterate 6 refine Only.setNew ?_ (by omega) _ _
      exact Only.of_below d1
set_option maxRecDepth 100000 in
set_option maxHeartbeats 1600000 in
theorem i_withoutComm (o nx md pf n : Int) (a0 : Option Addr) (n0 c0 : Nat) (base g k : Nat) (L : List Int) (w : World) (hl : L.length ≤ 1048576) (hs : L.Pairwise (· ≤ ·)) (hbs : base ≤ w.heap.size) (O0 : OwnN 3 .i64 base (.slice (some ⟨g, 0, none⟩) L.length k) L w) :
    Calls Try.prog 56 #[.agg #[.int .i64 o, .slice a0 n0 c0, .int .i64 nx, .int .i64 md, .int .i64 pf, .slice (some ⟨g, 0, none⟩) L.length k], .int .i64 n] w fun e w' => ∃ c cp, e = .returned (.agg #[.int .i64 o, .slice a0 n0 c0, .int .i64 nx, .int .i64 md, .int .i64 pf, .slice (some ⟨c, 0, none⟩) (woL L n).length cp]) ∧ base ≤ c ∧ Mut w' c (ncells .i64 (woL L n)) ∧ Below base w w' ∧ Only g w w' ∧ (c = g ∨ w.heap.size ≤ c) := by
  have hg := (own_parts O0).2.1
  have hgb := (own_parts O0).1
  have d0 : Below w.heap.size w ((w.alloc (.cells #[.int .i64 o, .slice a0 n0 c0, .int .i64 nx, .int .i64 md, .int .i64 pf, .slice (some ⟨g, 0, none⟩) L.length k] 33)).alloc (.cells #[.int .i64 0, .slice none 0 0, .int .i64 0, .int .i64 0, .int .i64 0, .slice none 0 0] 33)) := below_box2 (Below.refl _ _)
  have M0 := (Mut.new w #[.int .i64 o, .slice a0 n0 c0, .int .i64 nx, .int .i64 md, .int .i64 pf, .slice (some ⟨g, 0, none⟩) L.length k] 33).alloc (.cells #[.int .i64 0, .slice none 0 0, .int .i64 0, .int .i64 0, .int .i64 0, .slice none 0 0] 33)
  have M1 := Mut.new (w.alloc (.cells #[.int .i64 o, .slice a0 n0 c0, .int .i64 nx, .int .i64 md, .int .i64 pf, .slice (some ⟨g, 0, none⟩) L.length k] 33)) #[.int .i64 0, .slice none 0 0, .int .i64 0, .int .i64 0, .int .i64 0, .slice none 0 0] 33
  have hz : ((w.alloc (.cells #[.int .i64 o, .slice a0 n0 c0, .int .i64 nx, .int .i64 md, .int .i64 pf, .slice (some ⟨g, 0, none⟩) L.length k] 33)).alloc (.cells #[.int .i64 0, .slice none 0 0, .int .i64 0, .int .i64 0, .int .i64 0, .slice none 0 0] 33)).heap.size = w.heap.size + 1 + 1 := by simp
  rw [World.size_alloc] at M1
  have SR := hide (fun w O => i_searchI base g k L n w hl hs O)
  cases hcn : L.contains n with
  | false =>
    have hM : Hid (woL L n = L) := if_neg (by rw [hcn]; simp)
    have hci : L.countP (· < n) ≤ L.length := List.countP_le_length
    rw [hcn] at SR
    clear hcn
    generalize hcc : L.countP (· < n) = ci at *
    clear hcc
    go_enter Try.func56, Try.ntmps56
    go_wp2_with fail
    generalize (w.alloc (.cells #[.int .i64 o, .slice a0 n0 c0, .int .i64 nx, .int .i64 md, .int .i64 pf, .slice (some ⟨g, 0, none⟩) L.length k] 33)).alloc (.cells #[.int .i64 0, .slice none 0 0, .int .i64 0, .int .i64 0, .int .i64 0, .slice none 0 0] 33) = w0 at *
    refine (SR.out _ (ownN_below O0 d0)).mono ?_
    rintro e w1 ⟨rfl, e1⟩
    have d1 := d0.trans (e1.mono d0.size)
    replace M0 := M0.below e1
    replace M1 := M1.below e1
    have O1 := ownN_below O0 d1
    have hs1 := e1.size
    clear e1 d0
    have m0 := M0.2.1 0 _ rfl
    have m1 := M0.2.1 1 _ rfl
    have m2 := M0.2.1 2 _ rfl
    have m3 := M0.2.1 3 _ rfl
    have m4 := M0.2.1 4 _ rfl
    have m5 := M0.2.1 5 _ rfl
    have r0 := M1.2.1 0 _ rfl
    have r1 := M1.2.1 1 _ rfl
    have r2 := M1.2.1 2 _ rfl
    have r3 := M1.2.1 3 _ rfl
    have r4 := M1.2.1 4 _ rfl
    have r5 := M1.2.1 5 _ rfl
    have z0 := M0.2.2 0 (by simp)
    have z1 := M0.2.2 1 (by simp)
    have z2 := M0.2.2 2 (by simp)
    have z3 := M0.2.2 3 (by simp)
    have z4 := M0.2.2 4 (by simp)
    have z5 := M0.2.2 5 (by simp)
    have q0 := M1.2.2 0 (by simp)
    have q1 := M1.2.2 1 (by simp)
    have q2 := M1.2.2 2 (by simp)
    have q3 := M1.2.2 3 (by simp)
    have q4 := M1.2.2 4 (by simp)
    have q5 := M1.2.2 5 (by simp)
    go_wp2_with fail
    refine bodyPost_ret (v := .agg #[.int .i64 o, .slice a0 n0 c0, .int .i64 nx, .int .i64 md, .int .i64 pf, .slice (some ⟨g, 0, none⟩) L.length k]) (by simp [results, Try.results56, go_sem, r0, r1, r2, r3, r4, r5]) rfl ⟨g, k, by rw [hM.out], hgb, ?_, ?_, ?_, .inl rfl⟩
    · rw [hM.out]
      iterate 6 refine Mut.other ?_ (by omega) _ _
      exact own_mut O1
    · iterate 6 refine Below.setCell ?_ (by show base ≤ w.heap.size + 1; omega) _
      exact d1.mono hbs
    · iterate 6 refine Only.setNew ?_ (by omega) _ _
      exact Only.of_below d1
  | true =>
    have hM : Hid (woL L n = L.take (L.countP (· < n)) ++ L.drop (L.countP (· < n) + 1)) := if_pos hcn
    have hci : L.countP (· < n) ≤ L.length := List.countP_le_length
    have hcl : L.countP (· < n) < L.length := count_lt hcn
    rw [hcn] at SR
    clear hcn
    generalize hcc : L.countP (· < n) = ci at *
    clear hcc
    go_enter Try.func56, Try.ntmps56
    go_wp2_with fail
    generalize (w.alloc (.cells #[.int .i64 o, .slice a0 n0 c0, .int .i64 nx, .int .i64 md, .int .i64 pf, .slice (some ⟨g, 0, none⟩) L.length k] 33)).alloc (.cells #[.int .i64 0, .slice none 0 0, .int .i64 0, .int .i64 0, .int .i64 0, .slice none 0 0] 33) = w0 at *
    refine (SR.out _ (ownN_below O0 d0)).mono ?_
    rintro e w1 ⟨rfl, e1⟩
    have d1 := d0.trans (e1.mono d0.size)
    replace M0 := M0.below e1
    replace M1 := M1.below e1
    have O1 := ownN_below O0 d1
    have hs1 := e1.size
    clear e1 d0
    have m0 := M0.2.1 0 _ rfl
    have m1 := M0.2.1 1 _ rfl
    have m2 := M0.2.1 2 _ rfl
    have m3 := M0.2.1 3 _ rfl
    have m4 := M0.2.1 4 _ rfl
    have m5 := M0.2.1 5 _ rfl
    have r0 := M1.2.1 0 _ rfl
    have r1 := M1.2.1 1 _ rfl
    have r2 := M1.2.1 2 _ rfl
    have r3 := M1.2.1 3 _ rfl
    have r4 := M1.2.1 4 _ rfl
    have r5 := M1.2.1 5 _ rfl
    have z0 := M0.2.2 0 (by simp)
    have z1 := M0.2.2 1 (by simp)
    have z2 := M0.2.2 2 (by simp)
    have z3 := M0.2.2 3 (by simp)
    have z4 := M0.2.2 4 (by simp)
    have z5 := M0.2.2 5 (by simp)
    have q0 := M1.2.2 0 (by simp)
    have q1 := M1.2.2 1 (by simp)
    have q2 := M1.2.2 2 (by simp)
    have q3 := M1.2.2 3 (by simp)
    have q4 := M1.2.2 4 (by simp)
    have q5 := M1.2.2 5 (by simp)
    go_wp2_with fail
    have d2 := d1
    have hzX : w1.heap.size = w1.heap.size := rfl
    refine (i_deleteI base g k ci L w1 hcl O1).mono ?_
    rintro e w3 ⟨rfl, hc, MC, b3, o3⟩
    obtain ⟨c, hcg⟩ : ∃ c, c = g := ⟨g, rfl⟩
    obtain ⟨cp, hcp⟩ : ∃ cp, cp = k := ⟨k, rfl⟩
    replace M0 := M0.only o3 (by omega)
    replace M1 := M1.only o3 (by omega)
    have d3 : Below base w w3 := (d2.mono hbs).trans b3
    have u3 : Only g w w3 := (Only.of_below d2).trans o3
    have hs3 := o3.2.2.2.1
    clear m0 m1 m2 m3 m4 m5 r0 r1 r2 r3 r4 r5 z0 z1 z2 z3 z4 z5 q0 q1 q2 q3 q4 q5
    have m0 := M0.2.1 0 _ rfl
    have m1 := M0.2.1 1 _ rfl
    have m2 := M0.2.1 2 _ rfl
    have m3 := M0.2.1 3 _ rfl
    have m4 := M0.2.1 4 _ rfl
    have m5 := M0.2.1 5 _ rfl
    have r0 := M1.2.1 0 _ rfl
    have r1 := M1.2.1 1 _ rfl
    have r2 := M1.2.1 2 _ rfl
    have r3 := M1.2.1 3 _ rfl
    have r4 := M1.2.1 4 _ rfl
    have r5 := M1.2.1 5 _ rfl
    have z0 := M0.2.2 0 (by simp)
    have z1 := M0.2.2 1 (by simp)
    have z2 := M0.2.2 2 (by simp)
    have z3 := M0.2.2 3 (by simp)
    have z4 := M0.2.2 4 (by simp)
    have z5 := M0.2.2 5 (by simp)
    have q0 := M1.2.2 0 (by simp)
    have q1 := M1.2.2 1 (by simp)
    have q2 := M1.2.2 2 (by simp)
    have q3 := M1.2.2 3 (by simp)
    have q4 := M1.2.2 4 (by simp)
    have q5 := M1.2.2 5 (by simp)
    go_wp2_with fail
    refine bodyPost_ret (v := .agg #[.int .i64 o, .slice a0 n0 c0, .int .i64 nx, .int .i64 md, .int .i64 pf, .slice (some ⟨g, 0, none⟩) (L.length - 1) k]) (by simp [results, Try.results56, go_sem, r0, r1, r2, r3, r4, r5]) rfl ⟨g, k, by rw [hM.out, show (L.take ci ++ L.drop (ci + 1)).length = L.length - 1 by simp; omega], hc, ?_, ?_, ?_, by omega⟩
    · rw [hM.out]
      iterate 7 refine Mut.other ?_ (by omega) _ _
      exact MC
    · iterate 7 refine Below.setCell ?_ (by first | (show base ≤ w.heap.size; omega) | (show base ≤ w.heap.size + 1; omega)) _
      exact d3
    · iterate 7 refine Only.setNew ?_ (by omega) _ _
      exact u3
end Go.Proofs.Ytflakkbodbnndaa
