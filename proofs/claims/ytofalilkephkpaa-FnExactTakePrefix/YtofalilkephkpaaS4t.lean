/- What the specification's TakePrefix answers. -/
import Derived.Test.YtofalilkephkpaaS4s
namespace Go.Proofs.Ytofalilkephkpaa
open Go.RowKit

/-- A prefix can be taken at a place. -/
def tkB (s : ByteArray) (x : Int) : Bool := decide (s.size ≤ 1000 ∧ 0 ≤ x ∧ x ≤ s.size) && rdCode ((sbs s).drop x.toNat) == 0 && goodB (rdA ((sbs s).drop x.toNat)) (rdL ((sbs s).drop x.toNat))
/-- What is answered. -/
def tkV (s : ByteArray) (x : Int) : Value :=
  if tkB s x then .tuple #[.agg #[.int .i64 (rdA ((sbs s).drop x.toNat)), .int .i64 (rdL ((sbs s).drop x.toNat))], .int .i64 (x + rdN ((sbs s).drop x.toNat)), .bool true]
  else .tuple #[.agg #[.int .i64 0, .int .i64 0], .int .i64 0, .bool false]
def tkNo : Value := .tuple #[.agg #[.int .i64 0, .int .i64 0], .int .i64 0, .bool false]
theorem tkV_no {s : ByteArray} {x : Int} (h : tkB s x = false) : tkV s x = tkNo := by unfold tkV; rw [h]; rfl
theorem tkB_out {s : ByteArray} {x : Int} (h : ¬ (s.size ≤ 1000 ∧ 0 ≤ x ∧ x ≤ s.size)) : tkB s x = false := by unfold tkB; rw [decide_eq_false h]; simp
theorem tkB_code {s : ByteArray} {x : Int} (h : rdCode ((sbs s).drop x.toNat) ≠ 0) : tkB s x = false := by
  unfold tkB
  rw [show (rdCode ((sbs s).drop x.toNat) == 0) = false by simpa using h]
  simp
theorem rd_yes {l : Int} {D : List Int} (h1 : l ≤ 32) (h2 : need l ≤ D.length) : rdCode (l :: D) = 0 := by show (if l > 32 then (3 : Int) else if D.length < need l then 1 else 0) = 0; rw [if_neg (by omega), if_neg (by omega)]
theorem rd_short {l : Int} {D : List Int} (h1 : l ≤ 32) (h2 : D.length < need l) : rdCode (l :: D) = 1 := by show (if l > 32 then (3 : Int) else if D.length < need l then 1 else 0) = 1; rw [if_neg (by omega), if_pos h2]
theorem rd_big {l : Int} {D : List Int} (h1 : l > 32) : rdCode (l :: D) = 3 := by show (if l > 32 then (3 : Int) else if D.length < need l then 1 else 0) = 3; rw [if_pos h1]

set_option maxRecDepth 100000 in
set_option maxHeartbeats 3200000 in
theorem s_take_out (s : ByteArray) (x : Int) (w : World) (hs : s.size ≤ maxLen) (h : ¬ (s.size ≤ 1000 ∧ 0 ≤ x ∧ x < s.size)) :
    Calls Try.prog 69 #[.string s, .int .i64 x] w fun e w' => e = .returned tkNo ∧ Below w.heap.size w w' := by
  unfold maxLen at hs
  by_cases h1 : s.size ≤ 1000
  · have h1' : ¬ ((s.size : Int) > 1000) := by omega
    by_cases h2 : x < 0
    · clear h h1
      go_enter Try.func69, Try.ntmps69
      go_wp2_with fail
      exact bodyPost_ret (v := .tuple #[.agg #[.int .i64 0, .int .i64 0], .int .i64 0, .bool false]) (by simp [results, Try.results69, go_sem]) rfl ⟨rfl, below_box (Below.refl _ _)⟩
    · have h3 : x ≥ (s.size : Int) := by omega
      clear h h1
      go_enter Try.func69, Try.ntmps69
      go_wp2_with fail
      exact bodyPost_ret (v := .tuple #[.agg #[.int .i64 0, .int .i64 0], .int .i64 0, .bool false]) (by simp [results, Try.results69, go_sem]) rfl ⟨rfl, below_box (Below.refl _ _)⟩
  · have h1' : ((s.size : Int) > 1000) := by omega
    clear h h1
    go_enter Try.func69, Try.ntmps69
    go_wp2_with fail
    exact bodyPost_ret (v := .tuple #[.agg #[.int .i64 0, .int .i64 0], .int .i64 0, .bool false]) (by simp [results, Try.results69, go_sem]) rfl ⟨rfl, below_box (Below.refl _ _)⟩
set_option maxRecDepth 100000 in
set_option maxHeartbeats 3200000 in
theorem s_take_bad (s : ByteArray) (p : Nat) (cd : Int) (w : World) (hs : s.size ≤ 1000) (hp : p < s.size) (hcd : cd ≠ 0)
    (PR : Hid (∀ b w, Mut w b [.string s, .int .i64 p, .int .i64 0] → Calls Try.prog 151 #[.pointer (some ⟨b, 0, none⟩)] w fun e w' => ∃ a' l' p' : Int, e = .returned (.agg #[.int .i64 a', .int .i64 l']) ∧ Mut w' b [.string s, .int .i64 p', .int .i64 cd] ∧ Below b w w')) :
    Calls Try.prog 69 #[.string s, .int .i64 p] w fun e w' => e = .returned tkNo ∧ Below w.heap.size w w' := by
  have h1' : ¬ ((s.size : Int) > 1000) := by omega
  have h2 : ¬ ((p : Int) < 0) := by omega
  have h3 : ¬ ((p : Int) ≥ (s.size : Int)) := by omega
  have N := (Mut.new w #[.int .i64 0, .int .i64 0] 34).alloc (.cells #[.string s, .int .i64 p, .int .i64 0] 160)
  have M := Mut.new (w.alloc (.cells #[.int .i64 0, .int .i64 0] 34)) #[.string s, .int .i64 p, .int .i64 0] 160
  have d : Below w.heap.size w ((w.alloc (.cells #[.int .i64 0, .int .i64 0] 34)).alloc (.cells #[.string s, .int .i64 p, .int .i64 0] 160)) := below_box2 (Below.refl _ _)
  simp only [World.size_alloc] at M
  go_enter Try.func69, Try.ntmps69
  go_wp2_with fail
  generalize (w.alloc (.cells #[.int .i64 0, .int .i64 0] 34)).alloc (.cells #[.string s, .int .i64 p, .int .i64 0] 160) = w1 at *
  refine (PR.out _ _ M).mono ?_
  rintro e w2 ⟨a, l, p', rfl, M2, b2⟩
  have N := N.base (by omega) b2
  have d2 := d.trans (b2.mono (by omega))
  have M2 := M2.alloc (.cells #[.int .i64 a, .int .i64 l] 34)
  have N := N.alloc (.cells #[.int .i64 a, .int .i64 l] 34)
  have d3 : Below w.heap.size w (w2.alloc (.cells #[.int .i64 a, .int .i64 l] 34)) := d2.trans ((below_box (Below.refl _ _)).mono d2.size)
  have q2 := M2.2.1 2 _ rfl
  have x0 := N.2.1 0 _ rfl
  have x1 := N.2.1 1 _ rfl
  have g0 := N.2.2 0 (by simp)
  have g1 := N.2.2 1 (by simp)
  have hcd' : (cd != 0) = true := by simpa using hcd
  clear hcd M2 d2 b2 M
  go_wp2_with fail
  exact bodyPost_ret (v := .tuple #[.agg #[.int .i64 0, .int .i64 0], .int .i64 0, .bool false]) (by simp [results, Try.results69, go_sem, x0, x1]) rfl ⟨rfl, by refine Below.setCell (Below.setCell d3 ?_ _) ?_ _ <;> simp⟩
set_option maxRecDepth 100000 in
set_option maxHeartbeats 3200000 in
theorem s_take_good (s : ByteArray) (p : Nat) (a l : Int) (n : Nat) (w : World) (hs : s.size ≤ 1000) (hp : p < s.size) (hr : goodB a l = true)
    (PR : Hid (∀ b w, Mut w b [.string s, .int .i64 p, .int .i64 0] → Calls Try.prog 151 #[.pointer (some ⟨b, 0, none⟩)] w fun e w' => e = .returned (.agg #[.int .i64 a, .int .i64 l]) ∧ Mut w' b [.string s, .int .i64 n, .int .i64 0] ∧ Below b w w')) :
    Calls Try.prog 69 #[.string s, .int .i64 p] w fun e w' => e = .returned (.tuple #[.agg #[.int .i64 a, .int .i64 l], .int .i64 n, .bool true]) ∧ Below w.heap.size w w' := by
  have h1' : ¬ ((s.size : Int) > 1000) := by omega
  have h2 : ¬ ((p : Int) < 0) := by omega
  have h3 : ¬ ((p : Int) ≥ (s.size : Int)) := by omega
  have N := (Mut.new w #[.int .i64 0, .int .i64 0] 34).alloc (.cells #[.string s, .int .i64 p, .int .i64 0] 160)
  have M := Mut.new (w.alloc (.cells #[.int .i64 0, .int .i64 0] 34)) #[.string s, .int .i64 p, .int .i64 0] 160
  have d : Below w.heap.size w ((w.alloc (.cells #[.int .i64 0, .int .i64 0] 34)).alloc (.cells #[.string s, .int .i64 p, .int .i64 0] 160)) := below_box2 (Below.refl _ _)
  simp only [World.size_alloc] at M
  go_enter Try.func69, Try.ntmps69
  go_wp2_with fail
  generalize (w.alloc (.cells #[.int .i64 0, .int .i64 0] 34)).alloc (.cells #[.string s, .int .i64 p, .int .i64 0] 160) = w1 at *
  refine (PR.out _ _ M).mono ?_
  rintro e w2 ⟨rfl, M2, b2⟩
  have s1 := hide (fun w => s_good a l w)
  rw [hr] at s1
  have N := N.base (by omega) b2
  have d2 := d.trans (b2.mono (by omega))
  have hlt := M2.1
  have hnlt := N.1
  have M2 := M2.alloc (.cells #[.int .i64 a, .int .i64 l] 34)
  have N := N.alloc (.cells #[.int .i64 a, .int .i64 l] 34)
  have K := Mut.new w2 #[.int .i64 a, .int .i64 l] 34
  have d3 : Below w.heap.size w (w2.alloc (.cells #[.int .i64 a, .int .i64 l] 34)) := d2.trans ((below_box (Below.refl _ _)).mono d2.size)
  have q2 := M2.2.1 2 _ rfl
  clear d2 b2 M
  go_wp2_with fail
  generalize w2.alloc (.cells #[.int .i64 a, .int .i64 l] 34) = w3 at *
  generalize w2.heap.size = c at *
  refine (s1.out _).mono ?_
  rintro e w4 ⟨rfl, b4⟩
  have M2 := M2.below b4
  have N := N.below b4
  have K := K.below b4
  have d4 := d3.trans (b4.mono d3.size)
  clear b4 d3 q2 s1 hr
  have q1 := M2.2.1 1 _ rfl
  have x0 := N.2.1 0 _ rfl
  have x1 := N.2.1 1 _ rfl
  have g0 := N.2.2 0 (by simp)
  have g1 := N.2.2 1 (by simp)
  have k0 := K.2.1 0 _ rfl
  have k1 := K.2.1 1 _ rfl
  clear M2 N K
  go_wp2_with fail
  go_region
  all_goals
    go_wp2_with fail
    exact bodyPost_ret (v := .tuple #[.agg #[.int .i64 a, .int .i64 l], .int .i64 n, .bool true]) (by simp [results, Try.results69, go_sem, x0, x1]) rfl ⟨rfl, by
      first
        | (refine Below.setCell (Below.setCell (below_drewN d4 _) ?_ _) ?_ _ <;> simp)
        | (refine Below.setCell (Below.setCell d4.drew ?_ _) ?_ _ <;> simp)
        | (refine Below.setCell (Below.setCell d4 ?_ _) ?_ _ <;> simp)⟩
set_option maxRecDepth 100000 in
set_option maxHeartbeats 3200000 in
theorem s_take_not (s : ByteArray) (p : Nat) (a l : Int) (n : Nat) (w : World) (hs : s.size ≤ 1000) (hp : p < s.size) (hr : goodB a l = false)
    (PR : Hid (∀ b w, Mut w b [.string s, .int .i64 p, .int .i64 0] → Calls Try.prog 151 #[.pointer (some ⟨b, 0, none⟩)] w fun e w' => e = .returned (.agg #[.int .i64 a, .int .i64 l]) ∧ Mut w' b [.string s, .int .i64 n, .int .i64 0] ∧ Below b w w')) :
    Calls Try.prog 69 #[.string s, .int .i64 p] w fun e w' => e = .returned tkNo ∧ Below w.heap.size w w' := by
  have h1' : ¬ ((s.size : Int) > 1000) := by omega
  have h2 : ¬ ((p : Int) < 0) := by omega
  have h3 : ¬ ((p : Int) ≥ (s.size : Int)) := by omega
  have N := (Mut.new w #[.int .i64 0, .int .i64 0] 34).alloc (.cells #[.string s, .int .i64 p, .int .i64 0] 160)
  have M := Mut.new (w.alloc (.cells #[.int .i64 0, .int .i64 0] 34)) #[.string s, .int .i64 p, .int .i64 0] 160
  have d : Below w.heap.size w ((w.alloc (.cells #[.int .i64 0, .int .i64 0] 34)).alloc (.cells #[.string s, .int .i64 p, .int .i64 0] 160)) := below_box2 (Below.refl _ _)
  simp only [World.size_alloc] at M
  go_enter Try.func69, Try.ntmps69
  go_wp2_with fail
  generalize (w.alloc (.cells #[.int .i64 0, .int .i64 0] 34)).alloc (.cells #[.string s, .int .i64 p, .int .i64 0] 160) = w1 at *
  refine (PR.out _ _ M).mono ?_
  rintro e w2 ⟨rfl, M2, b2⟩
  have s1 := hide (fun w => s_good a l w)
  rw [hr] at s1
  have N := N.base (by omega) b2
  have d2 := d.trans (b2.mono (by omega))
  have hlt := M2.1
  have hnlt := N.1
  have M2 := M2.alloc (.cells #[.int .i64 a, .int .i64 l] 34)
  have N := N.alloc (.cells #[.int .i64 a, .int .i64 l] 34)
  have K := Mut.new w2 #[.int .i64 a, .int .i64 l] 34
  have d3 : Below w.heap.size w (w2.alloc (.cells #[.int .i64 a, .int .i64 l] 34)) := d2.trans ((below_box (Below.refl _ _)).mono d2.size)
  have q2 := M2.2.1 2 _ rfl
  clear d2 b2 M
  go_wp2_with fail
  generalize w2.alloc (.cells #[.int .i64 a, .int .i64 l] 34) = w3 at *
  generalize w2.heap.size = c at *
  refine (s1.out _).mono ?_
  rintro e w4 ⟨rfl, b4⟩
  have M2 := M2.below b4
  have N := N.below b4
  have K := K.below b4
  have d4 := d3.trans (b4.mono d3.size)
  clear b4 d3 q2 s1 hr
  have q1 := M2.2.1 1 _ rfl
  have x0 := N.2.1 0 _ rfl
  have x1 := N.2.1 1 _ rfl
  have g0 := N.2.2 0 (by simp)
  have g1 := N.2.2 1 (by simp)
  have k0 := K.2.1 0 _ rfl
  have k1 := K.2.1 1 _ rfl
  clear M2 N K
  go_wp2_with fail
  exact bodyPost_ret (v := .tuple #[.agg #[.int .i64 0, .int .i64 0], .int .i64 0, .bool false]) (by simp [results, Try.results69, go_sem, x0, x1]) rfl ⟨rfl, by refine Below.setCell (Below.setCell d4 ?_ _) ?_ _ <;> simp⟩
theorem s_take (s : ByteArray) (x : Int) (w : World) (hs : s.size ≤ maxLen) :
    Calls Try.prog 69 #[.string s, .int .i64 x] w fun e w' => e = .returned (tkV s x) ∧ Below w.heap.size w w' := by
  by_cases h : s.size ≤ 1000 ∧ 0 ≤ x ∧ x < s.size
  · obtain ⟨h1, h2, h3⟩ := h
    obtain ⟨p, rfl⟩ := Int.eq_ofNat_of_zero_le h2
    have hp : p < s.size := by omega
    have hdec : decide (s.size ≤ 1000 ∧ (0 : Int) ≤ (p : Int) ∧ (p : Int) ≤ s.size) = true := decide_eq_true ⟨h1, h2, by omega⟩
    cases hC : (sbs s).drop p with
    | nil =>
      have := congrArg List.length hC
      rw [List.length_drop, sbs_len] at this
      simp at this
      omega
    | cons l D =>
      by_cases hl : l ≤ 32
      · by_cases hD : need l ≤ D.length
        · have hB : tkB s p = goodB (rdA (l :: D)) (rdL (l :: D)) := by
            unfold tkB
            rw [hdec, Int.toNat_natCast, hC, rd_yes hl hD]
            simp
          have hV : tkV s p = if goodB (rdA (l :: D)) (rdL (l :: D)) then .tuple #[.agg #[.int .i64 (rdA (l :: D)), .int .i64 (rdL (l :: D))], .int .i64 ((p + 1 + need l : Nat) : Int), .bool true] else tkNo := by
            unfold tkV
            rw [hB, Int.toNat_natCast, hC]
            have e : (p : Int) + (rdN (l :: D) : Int) = ((p + 1 + need l : Nat) : Int) := by
              show (p : Int) + ((1 + need l : Nat) : Int) = _
              omega
            rw [e]
            rfl
          rw [hV]
          cases hr : goodB (rdA (l :: D)) (rdL (l :: D)) with
          | true =>
            rw [if_pos rfl]
            exact s_take_good s p (rdA (l :: D)) (rdL (l :: D)) (p + 1 + need l) w h1 hp hr (fun b w M => s_prefixR_yes b s p l D w h1 hC hl hD M)
          | false =>
            rw [if_neg (by decide)]
            exact s_take_not s p (rdA (l :: D)) (rdL (l :: D)) (p + 1 + need l) w h1 hp hr (fun b w M => s_prefixR_yes b s p l D w h1 hC hl hD M)
        · rw [tkV_no (tkB_code (by rw [Int.toNat_natCast, hC, rd_short hl (by omega)]; decide))]
          exact s_take_bad s p 1 w h1 hp (by decide) (fun b w M => s_prefixR_short b s p l D w h1 hC hl (by omega) M)
      · rw [tkV_no (tkB_code (by rw [Int.toNat_natCast, hC, rd_big (by omega)]; decide))]
        exact s_take_bad s p 3 w h1 hp (by decide) (fun b w M => s_prefixR_big b s p l D w h1 hC (by omega) M)
  · have hB : tkB s x = false := by
      by_cases h2 : s.size ≤ 1000 ∧ 0 ≤ x ∧ x ≤ s.size
      · refine tkB_code ?_
        have hx : x.toNat = s.size := by omega
        rw [hx, List.drop_eq_nil_of_le (by rw [sbs_len]; exact Nat.le_refl _)]
        decide
      · exact tkB_out h2
    rw [tkV_no hB]
    exact s_take_out s x w hs h
end Go.Proofs.Ytofalilkephkpaa
