/- Reading bytes from the front: what the program's numberOf, take and takeNumber answer. -/
import Derived.Test.YtoeephmdklmpfaaS4t
import Derived.Test.YtoeephmdklmpfaaI4b
namespace Go.Proofs.Ytoeephmdklmpfaa
open Go.RowKit

theorem bits_or8' (n x : Int) (h0 : 0 ≤ n) (h1 : n < 16777216) (x0 : 0 ≤ x) (x1 : x < 256) : bits .or .i64 (n * 256) x = n * 256 + x := by
  have := bits_or8 n x h0 h1 x0 x1
  rwa [IntWalk.wrap64_in x (by omega)] at this
/-- What is left to be read: the bytes L in block g, and the code; the reader lies in block b. -/
def Frt (w : World) (b g : Nat) (L : List Int) (c : Int) : Prop := ∃ off cap, Mut w b [.slice (some ⟨g, off, none⟩) L.length cap, .int .i64 c] ∧ L.length ≤ cap ∧ cap ≤ maxLen ∧ RowN .u8 (some ⟨g, off, none⟩) L w
theorem RowN.only {k : IntKind} {g off c : Nat} {L : List Int} {w w' : World} (h : RowN k (some ⟨g, off, none⟩) L w) (o : Only c w w') (hn : g ≠ c) : RowN k (some ⟨g, off, none⟩) L w' := by
  intro i hi
  obtain ⟨b', off', ha, hlt, h0⟩ := h i hi
  simp only [Option.some.injEq, Addr.mk.injEq, and_true] at ha
  obtain ⟨rfl, rfl⟩ := ha
  exact ⟨g, off, rfl, Nat.lt_of_lt_of_le hlt o.2.2.2.1, (o.cell hlt hn).trans h0⟩
theorem RowN.dropN {k : IntKind} {g off : Nat} {L : List Int} {w : World} (h : RowN k (some ⟨g, off, none⟩) L w) (m off' : Nat) (ho : m < L.length → off' = off + m) : RowN k (some ⟨g, off', none⟩) (L.drop m) w := by
  intro i hi
  rw [List.length_drop] at hi
  obtain ⟨b', off'', ha, hlt, h0⟩ := h (m + i) (by omega)
  simp only [Option.some.injEq, Addr.mk.injEq, and_true] at ha
  obtain ⟨rfl, rfl⟩ := ha
  refine ⟨g, off', rfl, hlt, ?_⟩
  rw [ho (by omega), show off + m + i = off + (m + i) by omega, h0]
  congr 2
  rw [List.getD_eq_getElem?_getD, List.getD_eq_getElem?_getD, List.getElem?_drop]
theorem Frt.below {w w' : World} {b g : Nat} {L : List Int} {c : Int} (h : Frt w b g L c) (k : Below w.heap.size w w') : Frt w' b g L c := by
  obtain ⟨off, cap, h1, h2, h3, h4⟩ := h
  exact ⟨off, cap, h1.below k, h2, h3, h4.below k⟩
theorem Frt.only {w w' : World} {b g x : Nat} {L : List Int} {c : Int} (h : Frt w b g L c) (k : Only x w w') (hb : b ≠ x) (hg : g ≠ x) : Frt w' b g L c := by
  obtain ⟨off, cap, h1, h2, h3, h4⟩ := h
  exact ⟨off, cap, h1.only k hb, h2, h3, h4.only k hg⟩
theorem Frt.lt {w : World} {b g : Nat} {L : List Int} {c : Int} (h : Frt w b g L c) : b < w.heap.size := by
  obtain ⟨_, _, h1, _⟩ := h
  exact h1.1
set_option maxRecDepth 100000 in
set_option maxHeartbeats 1600000 in
theorem i_numberOf (a : Option Addr) (L : List Int) (cap : Nat) (w : World) (hL : L.length ≤ 4) (hB : ∀ x ∈ L, 0 ≤ x ∧ x < 256) (R : RowN .u8 a L w) :
    Calls Try.prog 157 #[.slice a L.length cap] w fun e w' => e = .returned (.int .i64 (val L)) ∧ w' = w := by
  generalize hn : L.length = len at *
  have hnh := hide hn
  clear hn
  go_enter Try.func157, Try.ntmps157
  go_wp2_with fail
  go_loop [3, 5, 8] (fun n _ i => ∃ k : Nat, k ≤ len ∧ i = .int .i64 k ∧ n = .int .i64 (val (L.take k))) (fun _ _ i => len - (intOf i).toNat)
  case atStart => exact ⟨0, Nat.zero_le _, rfl, rfl⟩
  case round =>
    obtain ⟨k, hk, rfl, rfl⟩ := hrel
    by_cases hlt : k < len
    · obtain ⟨b, off, rfl, hbw, e0⟩ := R k (by rw [hnh.out]; exact hlt)
      have hlt' : (k : Int) < (len : Int) := by omega
      obtain ⟨v0, v1⟩ := val_bd (L.take k) (fun x hx => hB x (List.mem_of_mem_take hx))
      have v2 : val (L.take k) < 16777216 := by
        have : (L.take k).length ≤ 3 := by rw [List.length_take]; omega
        rcases (show (L.take k).length = 0 ∨ (L.take k).length = 1 ∨ (L.take k).length = 2 ∨ (L.take k).length = 3 by omega) with e | e | e | e <;> rw [e] at v1 <;> omega
      have hx : L[k]? = some (L.getD k 0) := by rw [List.getD_eq_getElem?_getD, List.getElem?_eq_getElem (by rw [hnh.out]; exact hlt)]; rfl
      have hxb := hB (L.getD k 0) (List.mem_of_getElem? hx)
      have hvn := hide (show val (L.take (k + 1)) = val (L.take k) * 256 + L.getD k 0 by rw [List.take_add_one, hx]; exact val_snoc _ _)
      clear hx v1 R hB
      generalize val (L.take k) = n at v0 v2 hvn ⊢
      generalize L.getD k 0 = x at *
      go_wp2_with fail
      refine ⟨⟨k + 1, by omega, by go_num, ?_⟩, by simp [intOf]; omega⟩
      rw [bits_or8' _ _ v0 v2 hxb.1 hxb.2, hvn.out]
    · have hk' : k = len := by omega
      subst hk'
      have e : Hid (val (L.take k) = val L) := by
        show val (L.take k) = val L
        rw [List.take_of_length_le (by rw [hnh.out]; exact Nat.le_refl _)]
      go_wp2_with fail
      go_ret
      exact ⟨ret_int e.out, rfl⟩
set_option maxRecDepth 100000 in
set_option maxHeartbeats 1600000 in
theorem i_take_yes1 (b g off len cap m : Nat) (w : World) (hm : m ≤ len) (hc : len ≤ cap) (hc2 : cap ≤ maxLen) (M : Mut w b [.slice (some ⟨g, off, none⟩) len cap, .int .i64 0]) :
    Calls Try.prog 158 #[.pointer (some ⟨b, 0, none⟩), .int .i64 m] w fun e w' => e = .returned (.slice (some ⟨g, off, none⟩) m m) ∧ (∃ off', (m < len → off' = off + m) ∧ Mut w' b [.slice (some ⟨g, off', none⟩) (len - m) (cap - m), .int .i64 0]) ∧ Only b w w' := by
  unfold maxLen at hc2
  have q0 := M.2.1 0 _ rfl
  have q1 := M.2.1 1 _ rfl
  have z0 := M.2.2 0 (by simp)
  have hg : ¬ ((m : Int) > (len : Int)) := by omega
  have h2 : (m : Int) ≤ (len : Int) := by omega
  by_cases he : cap = m
  · subst he
    have hl : len = cap := by omega
    subst hl
    go_enter Try.func158, Try.ntmps158
    go_wp2_with fail
    go_ret
    exact ⟨rfl, ⟨off, by simpa using M.set 0 (.slice (some ⟨g, off, none⟩) (len - len) 0)⟩, (Only.refl _ _).setCell _ _⟩
  · have h1 : (m : Int) < (cap : Int) := by omega
    go_enter Try.func158, Try.ntmps158
    go_wp2_with fail
    go_ret
    exact ⟨rfl, ⟨off + m, fun _ => rfl, M.set 0 (.slice (some ⟨g, off + m, none⟩) (len - m) (cap - m))⟩, (Only.refl _ _).setCell _ _⟩
theorem i_take_yes (b g m : Nat) (L : List Int) (w : World) (hn : g ≠ b) (hm : m ≤ L.length) (F : Frt w b g L 0) :
    Calls Try.prog 158 #[.pointer (some ⟨b, 0, none⟩), .int .i64 m] w fun e w' => (∃ off, e = .returned (.slice (some ⟨g, off, none⟩) m m) ∧ RowN .u8 (some ⟨g, off, none⟩) (L.take m) w') ∧ Frt w' b g (L.drop m) 0 ∧ Only b w w' := by
  obtain ⟨off, cap, M, h1, h2, R⟩ := F
  refine (i_take_yes1 b g off L.length cap m w hm h1 h2 M).mono ?_
  rintro e w' ⟨rfl, ⟨off', ho, M'⟩, hO⟩
  refine ⟨⟨off, rfl, (R.take m).only hO hn⟩, ⟨off', cap - m, ?_, ?_, by omega, (R.dropN m off' ho).only hO hn⟩, hO⟩
  · rw [List.length_drop]; exact M'
  · rw [List.length_drop]; omega
set_option maxRecDepth 100000 in
set_option maxHeartbeats 1600000 in
theorem i_take_short1 (b g off len cap m : Nat) (w : World) (hm : len < m) (M : Mut w b [.slice (some ⟨g, off, none⟩) len cap, .int .i64 0]) :
    Calls Try.prog 158 #[.pointer (some ⟨b, 0, none⟩), .int .i64 m] w fun e w' => e = .returned (.slice none 0 0) ∧ Mut w' b [.slice (some ⟨g, off, none⟩) len cap, .int .i64 1] ∧ Only b w w' := by
  have q0 := M.2.1 0 _ rfl
  have q1 := M.2.1 1 _ rfl
  have z1 := M.2.2 1 (by simp)
  have hg : ((m : Int) > (len : Int)) := by omega
  go_enter Try.func158, Try.ntmps158
  go_wp2_with fail
  go_ret
  exact ⟨rfl, M.set 1 (.int .i64 1), (Only.refl _ _).setCell _ _⟩
theorem i_take_short (b g m : Nat) (L : List Int) (w : World) (hn : g ≠ b) (hm : L.length < m) (F : Frt w b g L 0) :
    Calls Try.prog 158 #[.pointer (some ⟨b, 0, none⟩), .int .i64 m] w fun e w' => e = .returned (.slice none 0 0) ∧ Frt w' b g L 1 ∧ Only b w w' := by
  obtain ⟨off, cap, M, h1, h2, R⟩ := F
  refine (i_take_short1 b g off L.length cap m w hm M).mono ?_
  rintro e w' ⟨rfl, M', hO⟩
  exact ⟨rfl, ⟨off, cap, M', h1, h2, R.only hO hn⟩, hO⟩
set_option maxRecDepth 100000 in
set_option maxHeartbeats 1600000 in
theorem i_take_bad (b g : Nat) (m : Int) (L : List Int) (c : Int) (w : World) (hc : c ≠ 0) (F : Frt w b g L c) :
    Calls Try.prog 158 #[.pointer (some ⟨b, 0, none⟩), .int .i64 m] w fun e w' => e = .returned (.slice none 0 0) ∧ w' = w := by
  obtain ⟨off, cap, M, _⟩ := F
  have q0 := M.2.1 0 _ rfl
  have q1 := M.2.1 1 _ rfl
  have hg : (c != 0) = true := by simpa using hc
  have hg2 : (c == 0) = false := by simpa using hc
  clear M hc
  go_enter Try.func158, Try.ntmps158
  go_wp2_with fail
  go_ret
  exact ⟨rfl, rfl⟩
set_option maxRecDepth 100000 in
set_option maxHeartbeats 800000 in
theorem i_takeNumber_yes (b g m : Nat) (L : List Int) (w : World) (hn : g ≠ b) (h4 : m ≤ 4) (hm : m ≤ L.length) (hB : ∀ x ∈ L, 0 ≤ x ∧ x < 256) (F : Frt w b g L 0) :
    Calls Try.prog 143 #[.pointer (some ⟨b, 0, none⟩), .int .i64 m] w fun e w' => e = .returned (.int .i64 (val (L.take m))) ∧ Frt w' b g (L.drop m) 0 ∧ Only b w w' := by
  have s1 := hide (fun w F => i_take_yes b g m L w hn hm F)
  have hlen : (L.take m).length = m := by rw [List.length_take]; omega
  have s2 := hide (fun a cap w R => i_numberOf a (L.take m) cap w (by rw [hlen]; exact h4) (fun x hx => hB x (List.mem_of_mem_take hx)) R)
  rw [hlen] at s2
  clear hlen hm hB
  go_enter Try.func143, Try.ntmps143
  go_wp2_with fail
  refine (s1.out _ F).mono ?_
  rintro e w1 ⟨⟨off, rfl, R⟩, F1, o1⟩
  go_wp2_with fail
  refine (s2.out _ _ _ R).mono ?_
  rintro e w2 ⟨rfl, rfl⟩
  go_wp2_with fail
  go_ret
  exact ⟨rfl, F1, o1⟩
set_option maxRecDepth 100000 in
set_option maxHeartbeats 800000 in
theorem i_takeNumber_short (b g m : Nat) (L : List Int) (w : World) (hn : g ≠ b) (hm : L.length < m) (F : Frt w b g L 0) :
    Calls Try.prog 143 #[.pointer (some ⟨b, 0, none⟩), .int .i64 m] w fun e w' => e = .returned (.int .i64 0) ∧ Frt w' b g L 1 ∧ Only b w w' := by
  have s1 := hide (fun w F => i_take_short b g m L w hn hm F)
  have s2 := hide (fun a cap w => i_numberOf a [] cap w (by simp) (by simp) (RowN.nil _ _ _))
  simp only [List.length_nil] at s2
  clear hm
  go_enter Try.func143, Try.ntmps143
  go_wp2_with fail
  refine (s1.out _ F).mono ?_
  rintro e w1 ⟨rfl, F1, o1⟩
  go_wp2_with fail
  refine (s2.out _ _ _).mono ?_
  rintro e w2 ⟨rfl, rfl⟩
  go_wp2_with fail
  go_ret
  exact ⟨rfl, F1, o1⟩
set_option maxRecDepth 100000 in
set_option maxHeartbeats 800000 in
theorem i_takeNumber_bad (b g : Nat) (m : Int) (L : List Int) (c : Int) (w : World) (hc : c ≠ 0) (F : Frt w b g L c) :
    Calls Try.prog 143 #[.pointer (some ⟨b, 0, none⟩), .int .i64 m] w fun e w' => e = .returned (.int .i64 0) ∧ w' = w := by
  have s1 := hide (fun w F => i_take_bad b g m L c w hc F)
  have s2 := hide (fun a cap w => i_numberOf a [] cap w (by simp) (by simp) (RowN.nil _ _ _))
  simp only [List.length_nil] at s2
  clear hc
  go_enter Try.func143, Try.ntmps143
  go_wp2_with fail
  refine (s1.out _ F).mono ?_
  rintro e w1 ⟨rfl, rfl⟩
  go_wp2_with fail
  refine (s2.out _ _ _).mono ?_
  rintro e w2 ⟨rfl, rfl⟩
  go_wp2_with fail
  go_ret
  exact ⟨rfl, rfl⟩
end Go.Proofs.Ytoeephmdklmpfaa
