/- Spans as the program holds them: emptySpans, numberSpans. -/
import Derived.Test.YtocgghhlfmgndaaGreatJG
import Derived.Test.YtocgghhlfmgndaaGreatArr6
namespace Go.Proofs.YtocgghhlfmgndaaGreat
open Go.RowKit

/-- Spans as cells. -/
def sp (f : Nat → Nat → Bool) : List Value := bits 121 (fun k => f (k / 11) (k % 11))
theorem sp_len (f : Nat → Nat → Bool) : (sp f).length = 121 := bits_len _ _
theorem sp_get {f : Nat → Nat → Bool} {i j : Nat} (hi : i < 11) (hj : j < 11) : (sp f)[i * 11 + j]? = some (.bool (f i j)) := by
  have h := bits_get (n := 121) (f := fun k => f (k / 11) (k % 11)) (k := i * 11 + j) (by omega)
  rw [show (i * 11 + j) / 11 = i by omega, show (i * 11 + j) % 11 = j by omega] at h
  exact h
def setF (f : Nat → Nat → Bool) (i j : Nat) (b : Bool) : Nat → Nat → Bool := fun x y => if x = i ∧ y = j then b else f x y
theorem sp_set {f : Nat → Nat → Bool} {i j : Nat} (hj : j < 11) (b : Bool) : (sp f).set (i * 11 + j) (.bool b) = sp (setF f i j b) := by
  unfold sp
  rw [bits_set]
  refine bits_congr fun k _ => ?_
  unfold setF
  by_cases e : k = i * 11 + j
  · rw [if_pos e, if_pos ⟨by omega, by omega⟩]
  · rw [if_neg e, if_neg (fun h => e (by omega))]
theorem sp_congr {f g : Nat → Nat → Bool} (h : ∀ i j, i < 11 → j < 11 → f i j = g i j) : sp f = sp g := bits_congr fun k hk => h _ _ (by omega) (by omega)
theorem sp_one (f : Nat → Nat → Bool) : ∀ v ∈ sp f, v.oneCell' = true := bits_one _ _
def noF : Nat → Nat → Bool := fun _ _ => false
theorem zero121 : Tryz.zeroCells203 = (sp noF).toArray := by kernel_rfl
theorem size121 (f : Nat → Nat → Bool) : (Tryz.prog.info? 203).map (·.size) = some (sp f).length := by rw [sp_len]; kernel_rfl
/-- The diagonal up to a place. -/
def diaF (k : Nat) : Nat → Nat → Bool := fun i j => decide (i = j ∧ i < k)
set_option maxRecDepth 100000 in
set_option maxHeartbeats 1600000 in
theorem i_emptySpans (w : World) : Calls Tryz.prog 172 #[] w fun e w' => e = .returned (.agg (sp (diaF 11)).toArray) ∧ Below w.heap.size w w' := by
  have hz := zero121
  have hM0 := (Mut.new w (sp noF).toArray 203).alloc (.cells (sp noF).toArray 203)
  have hM1 := Mut.new (w.alloc (.cells (sp noF).toArray 203)) (sp noF).toArray 203
  have hd : Below w.heap.size w ((w.alloc (.cells (sp noF).toArray 203)).alloc (.cells (sp noF).toArray 203)) := below_box2 (Below.refl _ _)
  rw [World.size_alloc] at hM1
  go_enter Tryz.func172, Tryz.ntmps172
  go_wp2_with fail
  generalize (w.alloc (.cells (sp noF).toArray 203)).alloc (.cells (sp noF).toArray 203) = w1 at *
  clear hz
  go_loopw [3] (fun y wr => ∃ k : Nat, y = .int .i64 k ∧ k ≤ 11 ∧ Mut wr w.heap.size (sp noF) ∧ Mut wr (w.heap.size + 1) (sp (diaF k)) ∧ Below w.heap.size w wr) (fun y _ => 11 - (intOf y).toNat)
  case atStart => exact ⟨0, rfl, Nat.zero_le _, hM0, by rw [show sp (diaF 0) = sp noF from sp_congr (fun i j _ _ => by simp [diaF, noF])]; exact hM1, hd⟩
  case round =>
    clear hM0 hM1 hd
    obtain ⟨k, rfl, hk, M0, M1, hb⟩ := hrel
    by_cases hlt : k < 11
    · have hlt' : (k : Int) < 11 := by omega
      have c1 := M1.2.1 (k * 11 + k) _ (sp_get hlt hlt)
      have f1 := M1.2.2 (k * 11 + k) (by rw [sp_len]; omega)
      have hst : Hid (sp (diaF (k + 1)) = (sp (diaF k)).set (k * 11 + k) (.bool true)) := by
        show _ = _
        rw [sp_set hlt]
        refine sp_congr fun i j _ _ => ?_
        unfold setF diaF
        by_cases h : i = k ∧ j = k
        · rw [if_pos h]; simp [h.1, h.2]
        · rw [if_neg h, Bool.eq_iff_iff]; simp only [decide_eq_true_eq]; omega
      have hM0 := hide M0
      have hM1 := hide M1
      have hbb := hide hb
      clear M0 M1 hb
      go_wp2_with fail
      exact ⟨⟨k + 1, by go_num, by omega, hM0.out.other (by omega) _ _, by rw [hst.out]; exact hM1.out.set _ _, hbb.out.setCell (p := ⟨w.heap.size + 1, k * 11 + k, none⟩) (by simp) _⟩, by simp [intOf]; omega⟩
    · have hlt' : ¬ (k : Int) < 11 := by omega
      obtain rfl : k = 11 := by omega
      have hM0 := hide M0
      have hM1 := hide M1
      clear M0 M1
      go_wp2_with (first | (refine wpList_loadM rfl rfl rfl hM1.out Tryz.underlying203 (size121 _) ?_) | (refine wpList_storeM rfl rfl rfl rfl hM0.out (by rw [sp_len, sp_len]) (sp_one _) (size121 _) ?_; intro w9 hM9 hO9))
      exact bodyPost_ret (results_arr rfl rfl hM9 Tryz.underlying203 (size121 _)) rfl ⟨rfl, hb.trans ((hO9.below (by have := hM0.out.1; omega)).mono (by omega))⟩
/-- What is of one number, up to a place. -/
def numF (P : List Int) (each : Bool) (n : Int) (k : Nat) : Nat → Nat → Bool := fun i j => decide (j = i + 1 ∧ i < k) && (each || P.getD i 0 == n)
set_option maxRecDepth 100000 in
set_option maxHeartbeats 1600000 in
theorem i_numberSpans (ap : Option Addr) (cp : Nat) (P : List Int) (each : Bool) (n : Int) (w : World) (hP : P.length ≤ 10) (hR : RowN .i64 ap P w) :
    Calls Tryz.prog 173 #[.slice ap P.length cp, .bool each, .int .i64 n] w fun e w' => e = .returned (.agg (sp (numF P each n P.length)).toArray) ∧ Below w.heap.size w w' := by
  have hz := zero121
  have hM0 := (Mut.new w (sp noF).toArray 203).alloc (.cells (sp noF).toArray 203)
  have hM1 := Mut.new (w.alloc (.cells (sp noF).toArray 203)) (sp noF).toArray 203
  have hd : Below w.heap.size w ((w.alloc (.cells (sp noF).toArray 203)).alloc (.cells (sp noF).toArray 203)) := below_box2 (Below.refl _ _)
  rw [World.size_alloc] at hM1
  go_enter Tryz.func173, Tryz.ntmps173
  go_wp2_with fail
  generalize (w.alloc (.cells (sp noF).toArray 203)).alloc (.cells (sp noF).toArray 203) = w1 at *
  clear hz
  go_loopw [12] (fun y wr => ∃ k : Nat, y = .int .i64 k ∧ k ≤ P.length ∧ Mut wr w.heap.size (sp noF) ∧ Mut wr (w.heap.size + 1) (sp (numF P each n k)) ∧ Below w.heap.size w wr) (fun y _ => P.length - (intOf y).toNat)
  case atStart => exact ⟨0, rfl, Nat.zero_le _, hM0, by rw [show sp (numF P each n 0) = sp noF from sp_congr (fun i j _ _ => by simp [numF, noF])]; exact hM1, hd⟩
  case round =>
    clear hM0 hM1 hd
    obtain ⟨k, rfl, hk, M0, M1, hb⟩ := hrel
    by_cases hlt : k < P.length
    · have hlt' : (k : Int) < (P.length : Int) := by omega
      have hk11 : (k : Int) < 11 := by omega
      have hk12 : (k : Int) + 1 < 11 := by omega
      obtain ⟨b, off, rfl, hb5, e0⟩ := hR k hlt
      replace e0 := (hb.cell (p := ⟨b, off + k, none⟩) hb5).trans e0
      have c1 := M1.2.1 (k * 11 + (k + 1)) _ (sp_get (by omega) (by omega))
      have f1 := M1.2.2 (k * 11 + (k + 1)) (by rw [sp_len]; omega)
      have hst : Hid (sp (numF P each n (k + 1)) = (sp (numF P each n k)).set (k * 11 + (k + 1)) (.bool (each || P.getD k 0 == n))) := by
        show _ = _
        rw [sp_set (by omega)]
        refine sp_congr fun i j _ _ => ?_
        unfold setF numF
        by_cases h : i = k ∧ j = k + 1
        · rw [if_pos h]; simp [h.1, h.2]
        · rw [if_neg h]
          congr 1
          rw [Bool.eq_iff_iff]; simp only [decide_eq_true_eq]; omega
      generalize P.getD k 0 = x at *
      have hM0 := hide M0
      have hM1 := hide M1
      have hbb := hide hb
      clear M0 M1 hb hb5
      cases each with
      | true =>
        go_wp2_with fail
        exact ⟨⟨k + 1, by go_num, by omega, hM0.out.other (by omega) _ _, by rw [hst.out]; exact hM1.out.set _ _, hbb.out.setCell (p := ⟨w.heap.size + 1, k * 11 + (k + 1), none⟩) (by simp) _⟩, by simp [intOf]; omega⟩
      | false =>
        rw [Bool.false_or] at hst
        cases hq : (x == n) with
        | true =>
          rw [hq] at hst
          go_wp2_with fail
          exact ⟨⟨k + 1, by go_num, by omega, hM0.out.other (by omega) _ _, by rw [hst.out]; exact hM1.out.set _ _, hbb.out.setCell (p := ⟨w.heap.size + 1, k * 11 + (k + 1), none⟩) (by simp) _⟩, by simp [intOf]; omega⟩
        | false =>
          rw [hq] at hst
          go_wp2_with fail
          exact ⟨⟨k + 1, by go_num, by omega, hM0.out.other (by omega) _ _, by rw [hst.out]; exact hM1.out.set _ _, hbb.out.setCell (p := ⟨w.heap.size + 1, k * 11 + (k + 1), none⟩) (by simp) _⟩, by simp [intOf]; omega⟩
    · have hlt' : ¬ (k : Int) < (P.length : Int) := by omega
      obtain rfl : k = P.length := by omega
      have hM0 := hide M0
      have hM1 := hide M1
      clear M0 M1
      go_wp2_with (first | (refine wpList_loadM rfl rfl rfl hM1.out Tryz.underlying203 (size121 _) ?_) | (refine wpList_storeM rfl rfl rfl rfl hM0.out (by rw [sp_len, sp_len]) (sp_one _) (size121 _) ?_; intro w9 hM9 hO9))
      exact bodyPost_ret (results_arr rfl rfl hM9 Tryz.underlying203 (size121 _)) rfl ⟨rfl, hb.trans ((hO9.below (by have := hM0.out.1; omega)).mono (by omega))⟩
end Go.Proofs.YtocgghhlfmgndaaGreat
