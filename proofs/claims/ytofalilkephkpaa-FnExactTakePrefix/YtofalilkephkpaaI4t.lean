/- What the program's TakePrefix answers. -/
import Derived.Test.YtofalilkephkpaaI4s
import Derived.Laws.IdiomStrings
namespace Go.Proofs.Ytofalilkephkpaa
open Go.RowKit

theorem sbs_extract (s : ByteArray) (p : Nat) : sbs (s.extract p s.size) = (sbs s).drop p := by
  unfold sbs
  rw [ByteArray.data_extract, Array.toList_extract, List.map_drop.symm]
  congr 1
  rw [List.extract_eq_take_drop]
  rw [List.take_of_length_le (by rw [List.length_drop]; exact Nat.le_refl _)]
theorem ext_size (s : ByteArray) (p : Nat) : (s.extract p s.size).size = s.size - p := by
  rw [ByteArray.size_extract]
  omega
theorem front_start (w0 : World) (t : ByteArray) (n cap : Nat) (e f : TypeId) (fr : Nat × Nat) (hn : t.size = n) (h1 : n ≤ cap) (h2 : cap ≤ maxLen) :
    Frt ((w0.alloc (.cells (bytesRow t cap) e fr)).alloc (.cells #[.slice (some ⟨w0.heap.size, 0, none⟩) n cap, .int .i64 0] f)).drew (w0.heap.size + 1) w0.heap.size (sbs t) 0 := by
  have hl : (sbs t).length = n := by rw [sbs_len]; exact hn
  have R : RowN .u8 (some ⟨w0.heap.size, 0, none⟩) (sbs t) (w0.alloc (.cells (bytesRow t cap) e fr)) := by
    intro i hi
    refine ⟨w0.heap.size, 0, rfl, by simp, ?_⟩
    rw [Nat.zero_add, World.cell?_alloc_mark]
    rw [sbs_len] at hi
    have hx := sbs_at (s := t) hi
    have hd : (sbs t).getD i 0 = (t[i].toNat : Int) := by rw [List.getD_eq_getElem?_getD, hx]; rfl
    rw [hd]
    unfold bytesRow
    have hsz : i < (t.data.map (fun b => Value.int .u8 b.toNat)).size := by simpa using hi
    rw [Array.getElem?_append_left hsz, Array.getElem?_map]
    have : t.data[i]? = some t[i] := by
      have hi' : i < t.data.size := hi
      rw [Array.getElem?_eq_getElem hi']
      rfl
    rw [this]
    rfl
  refine ⟨0, cap, ?_, by rw [hl]; exact h1, h2, R.below (below_box (Below.refl _ _)).drew⟩
  rw [hl]
  have M := (Mut.new (w0.alloc (.cells (bytesRow t cap) e fr)) #[.slice (some ⟨w0.heap.size, 0, none⟩) n cap, .int .i64 0] f).drew
  simpa using M

set_option maxRecDepth 100000 in
set_option maxHeartbeats 3200000 in
theorem i_tk_out (s : ByteArray) (x : Int) (w : World) (hs : s.size ≤ maxLen) (h : ¬ (s.size ≤ 1000 ∧ 0 ≤ x ∧ x ≤ s.size)) :
    Calls Try.prog 70 #[.string s, .int .i64 x] w fun e w' => e = .returned tkNo ∧ Below w.heap.size w w' := by
  unfold maxLen at hs
  by_cases h1 : s.size ≤ 1000
  · have h1' : ¬ ((s.size : Int) > 1000) := by omega
    by_cases h2 : x < 0
    · clear h h1
      go_enter Try.func70, Try.ntmps70
      go_wp2_with fail
      exact bodyPost_ret (v := .tuple #[.agg #[.int .i64 0, .int .i64 0], .int .i64 0, .bool false]) (by simp [results, Try.results70, go_sem]) rfl ⟨rfl, below_box (Below.refl _ _)⟩
    · have h3 : x > (s.size : Int) := by omega
      clear h h1
      go_enter Try.func70, Try.ntmps70
      go_wp2_with fail
      exact bodyPost_ret (v := .tuple #[.agg #[.int .i64 0, .int .i64 0], .int .i64 0, .bool false]) (by simp [results, Try.results70, go_sem]) rfl ⟨rfl, below_box (Below.refl _ _)⟩
  · have h1' : ((s.size : Int) > 1000) := by omega
    clear h h1
    go_enter Try.func70, Try.ntmps70
    go_wp2_with fail
    exact bodyPost_ret (v := .tuple #[.agg #[.int .i64 0, .int .i64 0], .int .i64 0, .bool false]) (by simp [results, Try.results70, go_sem]) rfl ⟨rfl, below_box (Below.refl _ _)⟩
set_option maxRecDepth 100000 in
set_option maxHeartbeats 3200000 in
theorem i_tk_bad (s : ByteArray) (p : Nat) (cd : Int) (w : World) (hs : s.size ≤ 1000) (hp : p ≤ s.size) (hcd : cd ≠ 0)
    (PR : Hid (∀ b g w, g < b → Frt w b g ((sbs s).drop p) 0 → Calls Try.prog 152 #[.pointer (some ⟨b, 0, none⟩)] w fun e w' => ∃ a l : Int, ∃ L : List Int, e = .returned (.agg #[.int .i64 a, .int .i64 l]) ∧ Frt w' b g L cd ∧ Below b w w')) :
    Calls Try.prog 70 #[.string s, .int .i64 p] w fun e w' => e = .returned tkNo ∧ Below w.heap.size w w' := by
  have h1' : ¬ ((s.size : Int) > 1000) := by omega
  have h2 : ¬ ((p : Int) < 0) := by omega
  have h3 : ¬ ((p : Int) > (s.size : Int)) := by omega
  have hcv := fun (w : World) (t : ByteArray) => run_bytes_of_string (P := Try.prog) w 9 22 5 t Try.underlying9 Try.underlying22 Try.underlying5
  have FS := front_start (w.alloc (.cells #[.int .i64 0, .int .i64 0] 34)) (s.extract p s.size) (s.size - p) (grownCap (w.alloc (.cells #[.int .i64 0, .int .i64 0] 34)) (s.size - p) 0 5) 5 162 ((bytesRow (s.extract p s.size) (grownCap (w.alloc (.cells #[.int .i64 0, .int .i64 0] 34)) (s.size - p) 0 5)).size, (bytesRow (s.extract p s.size) (grownCap (w.alloc (.cells #[.int .i64 0, .int .i64 0] 34)) (s.size - p) 0 5)).size + 1) (ext_size s p) (grownCap_ge _ _ _ _) (grownCap_le_maxLen _ _ _ _ (by unfold maxLen; omega))
  rw [sbs_extract] at FS
  simp only [World.size_alloc] at FS
  have N : Mut ((((w.alloc (.cells #[.int .i64 0, .int .i64 0] 34)).alloc (.cells (bytesRow (s.extract p s.size) (grownCap (w.alloc (.cells #[.int .i64 0, .int .i64 0] 34)) (s.size - p) 0 5)) 5 ((bytesRow (s.extract p s.size) (grownCap (w.alloc (.cells #[.int .i64 0, .int .i64 0] 34)) (s.size - p) 0 5)).size, (bytesRow (s.extract p s.size) (grownCap (w.alloc (.cells #[.int .i64 0, .int .i64 0] 34)) (s.size - p) 0 5)).size + 1))).alloc (.cells #[.slice (some ⟨w.heap.size + 1, 0, none⟩) (s.size - p) (grownCap (w.alloc (.cells #[.int .i64 0, .int .i64 0] 34)) (s.size - p) 0 5), .int .i64 0] 162)).drew) w.heap.size [.int .i64 0, .int .i64 0] := (((Mut.new w #[.int .i64 0, .int .i64 0] 34).alloc _).alloc _).drew
  have d : Below w.heap.size w ((((w.alloc (.cells #[.int .i64 0, .int .i64 0] 34)).alloc (.cells (bytesRow (s.extract p s.size) (grownCap (w.alloc (.cells #[.int .i64 0, .int .i64 0] 34)) (s.size - p) 0 5)) 5 ((bytesRow (s.extract p s.size) (grownCap (w.alloc (.cells #[.int .i64 0, .int .i64 0] 34)) (s.size - p) 0 5)).size, (bytesRow (s.extract p s.size) (grownCap (w.alloc (.cells #[.int .i64 0, .int .i64 0] 34)) (s.size - p) 0 5)).size + 1))).alloc (.cells #[.slice (some ⟨w.heap.size + 1, 0, none⟩) (s.size - p) (grownCap (w.alloc (.cells #[.int .i64 0, .int .i64 0] 34)) (s.size - p) 0 5), .int .i64 0] 162)).drew) := (below_box3 (Below.refl _ _)).drew
  go_enter Try.func70, Try.ntmps70
  go_wp2_with fail
  generalize (((w.alloc (.cells #[.int .i64 0, .int .i64 0] 34)).alloc (.cells (bytesRow (s.extract p s.size) (grownCap (w.alloc (.cells #[.int .i64 0, .int .i64 0] 34)) (s.size - p) 0 5)) 5 ((bytesRow (s.extract p s.size) (grownCap (w.alloc (.cells #[.int .i64 0, .int .i64 0] 34)) (s.size - p) 0 5)).size, (bytesRow (s.extract p s.size) (grownCap (w.alloc (.cells #[.int .i64 0, .int .i64 0] 34)) (s.size - p) 0 5)).size + 1))).alloc (.cells #[.slice (some ⟨w.heap.size + 1, 0, none⟩) (s.size - p) (grownCap (w.alloc (.cells #[.int .i64 0, .int .i64 0] 34)) (s.size - p) 0 5), .int .i64 0] 162)).drew = w1 at *
  clear hcv
  generalize (grownCap (w.alloc (.cells #[.int .i64 0, .int .i64 0] 34)) (s.size - p) 0 5) = cap0 at *
  refine (PR.out _ _ _ (by omega) FS).mono ?_
  rintro e w2 ⟨a, l, L, rfl, F2, b2⟩
  have N := N.base (by omega) b2
  have d2 := d.trans (b2.mono (by omega))
  obtain ⟨off, cap, M2, _⟩ := F2
  have M2 := M2.alloc (.cells #[.int .i64 a, .int .i64 l] 34)
  have N := N.alloc (.cells #[.int .i64 a, .int .i64 l] 34)
  have d3 : Below w.heap.size w (w2.alloc (.cells #[.int .i64 a, .int .i64 l] 34)) := d2.trans ((below_box (Below.refl _ _)).mono d2.size)
  have q2 := M2.2.1 1 _ rfl
  have x0 := N.2.1 0 _ rfl
  have x1 := N.2.1 1 _ rfl
  have g0 := N.2.2 0 (by simp)
  have g1 := N.2.2 1 (by simp)
  have hcd' : (cd != 0) = true := by simpa using hcd
  clear hcd M2 d2 b2
  go_wp2_with fail
  exact bodyPost_ret (v := .tuple #[.agg #[.int .i64 0, .int .i64 0], .int .i64 0, .bool false]) (by simp [results, Try.results70, go_sem, x0, x1]) rfl ⟨rfl, by refine Below.setCell (Below.setCell d3 ?_ _) ?_ _ <;> simp⟩
set_option maxRecDepth 100000 in
set_option maxHeartbeats 3200000 in
theorem i_tk_good (s : ByteArray) (p : Nat) (a l : Int) (L : List Int) (n : Nat) (w : World) (hs : s.size ≤ 1000) (hp : p ≤ s.size) (hL : n + L.length = s.size) (hr : goodB a l = true)
    (PR : Hid (∀ b g w, g < b → Frt w b g ((sbs s).drop p) 0 → Calls Try.prog 152 #[.pointer (some ⟨b, 0, none⟩)] w fun e w' => e = .returned (.agg #[.int .i64 a, .int .i64 l]) ∧ Frt w' b g L 0 ∧ Below b w w')) :
    Calls Try.prog 70 #[.string s, .int .i64 p] w fun e w' => e = .returned (.tuple #[.agg #[.int .i64 a, .int .i64 l], .int .i64 n, .bool true]) ∧ Below w.heap.size w w' := by
  have h1' : ¬ ((s.size : Int) > 1000) := by omega
  have h2 : ¬ ((p : Int) < 0) := by omega
  have h3 : ¬ ((p : Int) > (s.size : Int)) := by omega
  have hcv := fun (w : World) (t : ByteArray) => run_bytes_of_string (P := Try.prog) w 9 22 5 t Try.underlying9 Try.underlying22 Try.underlying5
  have FS := front_start (w.alloc (.cells #[.int .i64 0, .int .i64 0] 34)) (s.extract p s.size) (s.size - p) (grownCap (w.alloc (.cells #[.int .i64 0, .int .i64 0] 34)) (s.size - p) 0 5) 5 162 ((bytesRow (s.extract p s.size) (grownCap (w.alloc (.cells #[.int .i64 0, .int .i64 0] 34)) (s.size - p) 0 5)).size, (bytesRow (s.extract p s.size) (grownCap (w.alloc (.cells #[.int .i64 0, .int .i64 0] 34)) (s.size - p) 0 5)).size + 1) (ext_size s p) (grownCap_ge _ _ _ _) (grownCap_le_maxLen _ _ _ _ (by unfold maxLen; omega))
  rw [sbs_extract] at FS
  simp only [World.size_alloc] at FS
  have N : Mut ((((w.alloc (.cells #[.int .i64 0, .int .i64 0] 34)).alloc (.cells (bytesRow (s.extract p s.size) (grownCap (w.alloc (.cells #[.int .i64 0, .int .i64 0] 34)) (s.size - p) 0 5)) 5 ((bytesRow (s.extract p s.size) (grownCap (w.alloc (.cells #[.int .i64 0, .int .i64 0] 34)) (s.size - p) 0 5)).size, (bytesRow (s.extract p s.size) (grownCap (w.alloc (.cells #[.int .i64 0, .int .i64 0] 34)) (s.size - p) 0 5)).size + 1))).alloc (.cells #[.slice (some ⟨w.heap.size + 1, 0, none⟩) (s.size - p) (grownCap (w.alloc (.cells #[.int .i64 0, .int .i64 0] 34)) (s.size - p) 0 5), .int .i64 0] 162)).drew) w.heap.size [.int .i64 0, .int .i64 0] := (((Mut.new w #[.int .i64 0, .int .i64 0] 34).alloc _).alloc _).drew
  have d : Below w.heap.size w ((((w.alloc (.cells #[.int .i64 0, .int .i64 0] 34)).alloc (.cells (bytesRow (s.extract p s.size) (grownCap (w.alloc (.cells #[.int .i64 0, .int .i64 0] 34)) (s.size - p) 0 5)) 5 ((bytesRow (s.extract p s.size) (grownCap (w.alloc (.cells #[.int .i64 0, .int .i64 0] 34)) (s.size - p) 0 5)).size, (bytesRow (s.extract p s.size) (grownCap (w.alloc (.cells #[.int .i64 0, .int .i64 0] 34)) (s.size - p) 0 5)).size + 1))).alloc (.cells #[.slice (some ⟨w.heap.size + 1, 0, none⟩) (s.size - p) (grownCap (w.alloc (.cells #[.int .i64 0, .int .i64 0] 34)) (s.size - p) 0 5), .int .i64 0] 162)).drew) := (below_box3 (Below.refl _ _)).drew
  go_enter Try.func70, Try.ntmps70
  go_wp2_with fail
  generalize (((w.alloc (.cells #[.int .i64 0, .int .i64 0] 34)).alloc (.cells (bytesRow (s.extract p s.size) (grownCap (w.alloc (.cells #[.int .i64 0, .int .i64 0] 34)) (s.size - p) 0 5)) 5 ((bytesRow (s.extract p s.size) (grownCap (w.alloc (.cells #[.int .i64 0, .int .i64 0] 34)) (s.size - p) 0 5)).size, (bytesRow (s.extract p s.size) (grownCap (w.alloc (.cells #[.int .i64 0, .int .i64 0] 34)) (s.size - p) 0 5)).size + 1))).alloc (.cells #[.slice (some ⟨w.heap.size + 1, 0, none⟩) (s.size - p) (grownCap (w.alloc (.cells #[.int .i64 0, .int .i64 0] 34)) (s.size - p) 0 5), .int .i64 0] 162)).drew = w1 at *
  clear hcv
  generalize (grownCap (w.alloc (.cells #[.int .i64 0, .int .i64 0] 34)) (s.size - p) 0 5) = cap0 at *
  refine (PR.out _ _ _ (by omega) FS).mono ?_
  rintro e w2 ⟨rfl, F2, b2⟩
  have s1 := hide (fun w => i_good a l w)
  rw [hr] at s1
  have N := N.base (by omega) b2
  have d2 := d.trans (b2.mono (by omega))
  obtain ⟨off, cap, M2, _⟩ := F2
  have M2 := M2.alloc (.cells #[.int .i64 a, .int .i64 l] 34)
  have N := N.alloc (.cells #[.int .i64 a, .int .i64 l] 34)
  have K := Mut.new w2 #[.int .i64 a, .int .i64 l] 34
  have d3 : Below w.heap.size w (w2.alloc (.cells #[.int .i64 a, .int .i64 l] 34)) := d2.trans ((below_box (Below.refl _ _)).mono d2.size)
  have q2 := M2.2.1 1 _ rfl
  clear d2 b2
  go_wp2_with fail
  generalize w2.alloc (.cells #[.int .i64 a, .int .i64 l] 34) = w3 at *
  generalize w2.heap.size = c at *
  refine (s1.out _).mono ?_
  rintro e w4 ⟨rfl, b4⟩
  have M2 := M2.below b4
  have N := N.below b4
  have K := K.below b4
  have d4 := d3.trans (b4.mono d3.size)
  clear b4 d3 q2 s1 hr
  have hLi := hide (show (s.size : Int) - (L.length : Int) = (n : Int) by omega)
  have hL1 : (L.length : Int) ≤ (s.size : Int) := by omega
  clear hL
  generalize L.length = ll at *
  have q0 := M2.2.1 0 _ rfl
  have x0 := N.2.1 0 _ rfl
  have x1 := N.2.1 1 _ rfl
  have g0 := N.2.2 0 (by simp)
  have g1 := N.2.2 1 (by simp)
  have k0 := K.2.1 0 _ rfl
  have k1 := K.2.1 1 _ rfl
  clear M2 N K
  go_wp2_with fail
  go_region
  all_goals
    go_wp2_with fail
    exact bodyPost_ret (v := .tuple #[.agg #[.int .i64 a, .int .i64 l], .int .i64 n, .bool true]) (by simp [results, Try.results70, go_sem, x0, x1, hLi.out]) rfl ⟨rfl, by
      first
        | (refine Below.setCell (Below.setCell (below_drewN d4 _) ?_ _) ?_ _ <;> simp)
        | (refine Below.setCell (Below.setCell d4.drew ?_ _) ?_ _ <;> simp)
        | (refine Below.setCell (Below.setCell d4 ?_ _) ?_ _ <;> simp)⟩
set_option maxRecDepth 100000 in
set_option maxHeartbeats 3200000 in
theorem i_tk_not (s : ByteArray) (p : Nat) (a l : Int) (L : List Int) (n : Nat) (w : World) (hs : s.size ≤ 1000) (hp : p ≤ s.size) (hL : n + L.length = s.size) (hr : goodB a l = false)
    (PR : Hid (∀ b g w, g < b → Frt w b g ((sbs s).drop p) 0 → Calls Try.prog 152 #[.pointer (some ⟨b, 0, none⟩)] w fun e w' => e = .returned (.agg #[.int .i64 a, .int .i64 l]) ∧ Frt w' b g L 0 ∧ Below b w w')) :
    Calls Try.prog 70 #[.string s, .int .i64 p] w fun e w' => e = .returned tkNo ∧ Below w.heap.size w w' := by
  have h1' : ¬ ((s.size : Int) > 1000) := by omega
  have h2 : ¬ ((p : Int) < 0) := by omega
  have h3 : ¬ ((p : Int) > (s.size : Int)) := by omega
  have hcv := fun (w : World) (t : ByteArray) => run_bytes_of_string (P := Try.prog) w 9 22 5 t Try.underlying9 Try.underlying22 Try.underlying5
  have FS := front_start (w.alloc (.cells #[.int .i64 0, .int .i64 0] 34)) (s.extract p s.size) (s.size - p) (grownCap (w.alloc (.cells #[.int .i64 0, .int .i64 0] 34)) (s.size - p) 0 5) 5 162 ((bytesRow (s.extract p s.size) (grownCap (w.alloc (.cells #[.int .i64 0, .int .i64 0] 34)) (s.size - p) 0 5)).size, (bytesRow (s.extract p s.size) (grownCap (w.alloc (.cells #[.int .i64 0, .int .i64 0] 34)) (s.size - p) 0 5)).size + 1) (ext_size s p) (grownCap_ge _ _ _ _) (grownCap_le_maxLen _ _ _ _ (by unfold maxLen; omega))
  rw [sbs_extract] at FS
  simp only [World.size_alloc] at FS
  have N : Mut ((((w.alloc (.cells #[.int .i64 0, .int .i64 0] 34)).alloc (.cells (bytesRow (s.extract p s.size) (grownCap (w.alloc (.cells #[.int .i64 0, .int .i64 0] 34)) (s.size - p) 0 5)) 5 ((bytesRow (s.extract p s.size) (grownCap (w.alloc (.cells #[.int .i64 0, .int .i64 0] 34)) (s.size - p) 0 5)).size, (bytesRow (s.extract p s.size) (grownCap (w.alloc (.cells #[.int .i64 0, .int .i64 0] 34)) (s.size - p) 0 5)).size + 1))).alloc (.cells #[.slice (some ⟨w.heap.size + 1, 0, none⟩) (s.size - p) (grownCap (w.alloc (.cells #[.int .i64 0, .int .i64 0] 34)) (s.size - p) 0 5), .int .i64 0] 162)).drew) w.heap.size [.int .i64 0, .int .i64 0] := (((Mut.new w #[.int .i64 0, .int .i64 0] 34).alloc _).alloc _).drew
  have d : Below w.heap.size w ((((w.alloc (.cells #[.int .i64 0, .int .i64 0] 34)).alloc (.cells (bytesRow (s.extract p s.size) (grownCap (w.alloc (.cells #[.int .i64 0, .int .i64 0] 34)) (s.size - p) 0 5)) 5 ((bytesRow (s.extract p s.size) (grownCap (w.alloc (.cells #[.int .i64 0, .int .i64 0] 34)) (s.size - p) 0 5)).size, (bytesRow (s.extract p s.size) (grownCap (w.alloc (.cells #[.int .i64 0, .int .i64 0] 34)) (s.size - p) 0 5)).size + 1))).alloc (.cells #[.slice (some ⟨w.heap.size + 1, 0, none⟩) (s.size - p) (grownCap (w.alloc (.cells #[.int .i64 0, .int .i64 0] 34)) (s.size - p) 0 5), .int .i64 0] 162)).drew) := (below_box3 (Below.refl _ _)).drew
  go_enter Try.func70, Try.ntmps70
  go_wp2_with fail
  generalize (((w.alloc (.cells #[.int .i64 0, .int .i64 0] 34)).alloc (.cells (bytesRow (s.extract p s.size) (grownCap (w.alloc (.cells #[.int .i64 0, .int .i64 0] 34)) (s.size - p) 0 5)) 5 ((bytesRow (s.extract p s.size) (grownCap (w.alloc (.cells #[.int .i64 0, .int .i64 0] 34)) (s.size - p) 0 5)).size, (bytesRow (s.extract p s.size) (grownCap (w.alloc (.cells #[.int .i64 0, .int .i64 0] 34)) (s.size - p) 0 5)).size + 1))).alloc (.cells #[.slice (some ⟨w.heap.size + 1, 0, none⟩) (s.size - p) (grownCap (w.alloc (.cells #[.int .i64 0, .int .i64 0] 34)) (s.size - p) 0 5), .int .i64 0] 162)).drew = w1 at *
  clear hcv
  generalize (grownCap (w.alloc (.cells #[.int .i64 0, .int .i64 0] 34)) (s.size - p) 0 5) = cap0 at *
  refine (PR.out _ _ _ (by omega) FS).mono ?_
  rintro e w2 ⟨rfl, F2, b2⟩
  have s1 := hide (fun w => i_good a l w)
  rw [hr] at s1
  have N := N.base (by omega) b2
  have d2 := d.trans (b2.mono (by omega))
  obtain ⟨off, cap, M2, _⟩ := F2
  have M2 := M2.alloc (.cells #[.int .i64 a, .int .i64 l] 34)
  have N := N.alloc (.cells #[.int .i64 a, .int .i64 l] 34)
  have K := Mut.new w2 #[.int .i64 a, .int .i64 l] 34
  have d3 : Below w.heap.size w (w2.alloc (.cells #[.int .i64 a, .int .i64 l] 34)) := d2.trans ((below_box (Below.refl _ _)).mono d2.size)
  have q2 := M2.2.1 1 _ rfl
  clear d2 b2
  go_wp2_with fail
  generalize w2.alloc (.cells #[.int .i64 a, .int .i64 l] 34) = w3 at *
  generalize w2.heap.size = c at *
  refine (s1.out _).mono ?_
  rintro e w4 ⟨rfl, b4⟩
  have M2 := M2.below b4
  have N := N.below b4
  have K := K.below b4
  have d4 := d3.trans (b4.mono d3.size)
  clear b4 d3 q2 s1 hr
  have hLi := hide (show (s.size : Int) - (L.length : Int) = (n : Int) by omega)
  have hL1 : (L.length : Int) ≤ (s.size : Int) := by omega
  clear hL
  generalize L.length = ll at *
  have q0 := M2.2.1 0 _ rfl
  have x0 := N.2.1 0 _ rfl
  have x1 := N.2.1 1 _ rfl
  have g0 := N.2.2 0 (by simp)
  have g1 := N.2.2 1 (by simp)
  have k0 := K.2.1 0 _ rfl
  have k1 := K.2.1 1 _ rfl
  clear M2 N K
  go_wp2_with fail
  exact bodyPost_ret (v := .tuple #[.agg #[.int .i64 0, .int .i64 0], .int .i64 0, .bool false]) (by simp [results, Try.results70, go_sem, x0, x1]) rfl ⟨rfl, by refine Below.setCell (Below.setCell d4 ?_ _) ?_ _ <;> simp⟩
theorem i_takeP (s : ByteArray) (x : Int) (w : World) (hs : s.size ≤ maxLen) :
    Calls Try.prog 70 #[.string s, .int .i64 x] w fun e w' => e = .returned (tkV s x) ∧ Below w.heap.size w w' := by
  by_cases h : s.size ≤ 1000 ∧ 0 ≤ x ∧ x ≤ s.size
  · obtain ⟨h1, h2, h3⟩ := h
    obtain ⟨p, rfl⟩ := Int.eq_ofNat_of_zero_le h2
    have hp : p ≤ s.size := by omega
    have hdec : decide (s.size ≤ 1000 ∧ (0 : Int) ≤ (p : Int) ∧ (p : Int) ≤ s.size) = true := decide_eq_true ⟨h1, h2, by omega⟩
    have hB0 : ∀ x ∈ (sbs s).drop p, 0 ≤ x ∧ x < 256 := fun x hx => sbs_byte s x (List.mem_of_mem_drop hx)
    cases hC : (sbs s).drop p with
    | nil =>
      rw [tkV_no (tkB_code (by rw [Int.toNat_natCast, hC]; decide))]
      refine i_tk_bad s p 1 w h1 hp (by decide) (fun b g w hg F => ?_)
      rw [hC] at F
      refine (i_takePrefix_empty b g w hg F).mono ?_
      rintro e w' ⟨rfl, F', d⟩
      exact ⟨_, _, _, rfl, F', d⟩
    | cons l D =>
      rw [hC] at hB0
      have hlen : s.size = p + 1 + D.length := by
        have := congrArg List.length hC
        rw [List.length_drop, sbs_len, List.length_cons] at this
        omega
      by_cases hl : l ≤ 32
      · by_cases hD : need l ≤ D.length
        · have hB : tkB s p = goodB (rdA (l :: D)) (rdL (l :: D)) := by
            unfold tkB
            rw [hdec, Int.toNat_natCast, hC, rd_yes hl hD]
            simp
          have hV : tkV s p = if goodB (rdA (l :: D)) (rdL (l :: D)) then .tuple #[.agg #[.int .i64 (rdA (l :: D)), .int .i64 (rdL (l :: D))], .int .i64 ((p + 1 + need l : Nat) : Int), .bool true] else tkNo := by
            unfold tkV
            rw [hB, Int.toNat_natCast, hC]
            have e : (p : Int) + (rdN (l :: D) : Int) = ((p + 1 + need l : Nat) : Int) := by
              show (p : Int) + ((1 + need l : Nat) : Int) = _
              omega
            rw [e]
            rfl
          rw [hV]
          have hLL : p + 1 + need l + (D.drop (need l)).length = s.size := by rw [List.length_drop]; omega
          cases hr : goodB (rdA (l :: D)) (rdL (l :: D)) with
          | true =>
            rw [if_pos rfl]
            refine i_tk_good s p (rdA (l :: D)) (rdL (l :: D)) (D.drop (need l)) (p + 1 + need l) w h1 hp hLL hr (fun b g w hg F => ?_)
            rw [hC] at F
            exact i_takePrefix_yes b g l D w hg hl hD hB0 F
          | false =>
            rw [if_neg (by decide)]
            refine i_tk_not s p (rdA (l :: D)) (rdL (l :: D)) (D.drop (need l)) (p + 1 + need l) w h1 hp hLL hr (fun b g w hg F => ?_)
            rw [hC] at F
            exact i_takePrefix_yes b g l D w hg hl hD hB0 F
        · rw [tkV_no (tkB_code (by rw [Int.toNat_natCast, hC, rd_short hl (by omega)]; decide))]
          refine i_tk_bad s p 1 w h1 hp (by decide) (fun b g w hg F => ?_)
          rw [hC] at F
          refine (i_takePrefix_short b g l D w hg hl (by omega) hB0 F).mono ?_
          rintro e w' ⟨rfl, F', d⟩
          exact ⟨_, _, _, rfl, F', d⟩
      · rw [tkV_no (tkB_code (by rw [Int.toNat_natCast, hC, rd_big (by omega)]; decide))]
        refine i_tk_bad s p 3 w h1 hp (by decide) (fun b g w hg F => ?_)
        rw [hC] at F
        refine (i_takePrefix_big b g l D w hg (by omega) hB0 F).mono ?_
        rintro e w' ⟨rfl, F', d⟩
        exact ⟨_, _, _, rfl, F', d⟩
  · rw [tkV_no (tkB_out h)]
    exact i_tk_out s x w hs h
end Go.Proofs.Ytofalilkephkpaa
