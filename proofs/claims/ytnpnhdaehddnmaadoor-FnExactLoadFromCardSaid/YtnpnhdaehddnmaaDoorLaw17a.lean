/- Lists of writes: how large, marked, held. -/
import Derived.Test.YtnpnhdaehddnmaaDoorFlatWrite
import Derived.Test.YtnpnhdaehddnmaaDoorLaw15s
import Derived.Test.YtnpnhdaehddnmaaDoorMemW
namespace Go.Proofs.YtnpnhdaehddnmaaDoor
open Go.RowKit

set_option maxHeartbeats 400000 in
theorem w_szWrite (t : Int) (b : ByteArray) (left : Int) (w : World) (hb : b.size ≤ maxLen) (h0 : 0 ≤ left) (h1 : left ≤ 1048576) :
    Calls Tryd.prog 41 #[.agg #[.int .i64 t, .string b], .int .i64 left] w fun e w' => e = .returned (.int .i64 (if (b.size : Int) ≤ left then left - (b.size : Int) else -1)) ∧ Below w.heap.size w w' := by
  unfold maxLen at hb
  by_cases h : (b.size : Int) ≤ left
  · rw [if_pos h]
    have h2 : ¬ (left - (b.size : Int) < 0) := by omega
    go_enter Tryd.func41, Tryd.ntmps41
    go_wp2_with fail
    go_ret
    exact ⟨rfl, below_box (Below.refl _ _)⟩
  · rw [if_neg h]
    have h2 : left - (b.size : Int) < 0 := by omega
    go_enter Tryd.func41, Tryd.ntmps41
    go_wp2_with fail
    go_ret
    exact ⟨rfl, below_box (Below.refl _ _)⟩
set_option maxRecDepth 100000 in
set_option maxHeartbeats 800000 in
theorem w_szWriteS (a : Option Addr) (len cap : Nat) (f0 : Nat → Int) (f1 : Nat → ByteArray) (left : Int) (w : World) (hl : len ≤ maxLen) (h0 : 0 ≤ left) (h1 : left ≤ 1048576) (hR : RowWrite a len f0 f1 w) (hb : ∀ i, i < len → (f1 i).size ≤ maxLen) :
    Calls Tryd.prog 20 #[.slice a len cap, .int .i64 left] w fun e w' => ∃ r : Int, e = .returned (.int .i64 r) ∧ (r = -1 ∨ (0 ≤ r ∧ r ≤ 1048576 ∧ len ≤ 1048576 ∧ ∀ i, i < len → (f1 i).size ≤ 1048576)) ∧ Below w.heap.size w w' := by
  unfold maxLen at hl
  by_cases h : (len : Int) ≤ left
  · have h2 : ¬ (left - (len : Int) < 0) := by omega
    go_enter Tryd.func20, Tryd.ntmps20
    go_wp2_with fail
    go_loopw [1, 5] (fun x i wr => ∃ (q : Nat) (l : Int), q ≤ len ∧ i = .int .i64 q ∧ x = .int .i64 l ∧ 0 ≤ l ∧ l ≤ 1048576 ∧ (∀ i, i < q → (f1 i).size ≤ 1048576) ∧ Below w.heap.size w wr) (fun _ i _ => len - (intOf i).toNat)
    case atStart => exact ⟨0, left - (len : Int), Nat.zero_le _, rfl, rfl, by omega, by omega, fun i hi => absurd hi (Nat.not_lt_zero _), Below.refl _ _⟩
    case round =>
      clear h2
      obtain ⟨q, l, hq, rfl, rfl, l0, l1, hs, hbw⟩ := hrel
      by_cases hlt : q < len
      · obtain ⟨b, off, rfl, hbb, c0, c1⟩ := hR q hlt
        have c0 := (hbw.cell (p := ⟨b, off + q * 2, none⟩) hbb).trans c0
        have c1 := (hbw.cell (p := ⟨b, off + q * 2 + 1, none⟩) hbb).trans c1
        have hlt' : (q : Int) < (len : Int) := by omega
        have Z := hide (fun w => w_szWrite (f0 q) (f1 q) l w (hb q hlt) l0 l1)
        by_cases hk : ((f1 q).size : Int) ≤ l
        · rw [if_pos hk] at Z
          have hn : ¬ (l - ((f1 q).size : Int) < 0) := by omega
          have hh := hide (⟨hs, hR, hb⟩ : (∀ i, i < q → (f1 i).size ≤ 1048576) ∧ _ ∧ _)
          clear hs hR hb
          go_wp2_with fail
          refine (Z.out _).mono ?_
          rintro e w1 ⟨rfl, b1⟩
          clear c0 c1
          go_wp2_with fail
          refine ⟨⟨q + 1, _, by omega, by go_num, rfl, by omega, by omega, fun i hi => ?_, below_step hbw b1⟩, by simp [intOf]; omega⟩
          by_cases e : i = q
          · subst e; omega
          · exact hh.out.1 i (by omega)
        · rw [if_neg hk] at Z
          clear hs hR hb
          go_wp2_with fail
          refine (Z.out _).mono ?_
          rintro e w1 ⟨rfl, b1⟩
          clear c0 c1
          go_wp2_with fail
          go_ret
          exact ⟨-1, rfl, .inl rfl, below_step hbw b1⟩
      · have hk' : q = len := by omega
        subst hk'
        have hh := hide hs
        clear hs hR hb
        go_wp2_with fail
        go_ret
        exact ⟨l, rfl, .inr ⟨l0, l1, by omega, hh.out⟩, hbw⟩
  · have h2 : left - (len : Int) < 0 := by omega
    clear hR hb
    go_enter Tryd.func20, Tryd.ntmps20
    go_wp2_with fail
    go_ret
    exact ⟨-1, rfl, .inl rfl, Below.refl _ _⟩
theorem OutWrite.set2 {c n k : Nat} {f0 : Nat → Int} {f1 : Nat → ByteArray} {w w1 : World} (h : OutWrite c n k f0 f1 w) (hk : k < n) (hb : Below (w.setCell ⟨c, k * 2, none⟩ (.int .i64 (f0 k))).heap.size (w.setCell ⟨c, k * 2, none⟩ (.int .i64 (f0 k))) w1) :
    OutWrite c n (k + 1) f0 f1 (w1.setCell ⟨c, k * 2 + 1, none⟩ (.string (f1 k))) := by
  obtain ⟨hc, hf⟩ := bcell hb
  have hlt : c < (w.setCell ⟨c, k * 2, none⟩ (.int .i64 (f0 k))).heap.size := by simpa using h.1
  refine ⟨by have := Nat.lt_of_lt_of_le hlt hb.size; simpa using this, fun i hi => ?_⟩
  obtain ⟨⟨x0, x1, h0, h1, hx⟩, g0, g1⟩ := h.2 i hi
  have c0 := hc c (i * 2) hlt
  have c1 := hc c (i * 2 + 1) hlt
  have q0 := (hf c (i * 2) hlt).trans (show _ = false by simpa [go_sem] using g0)
  have q1 := (hf c (i * 2 + 1) hlt).trans (show _ = false by simpa [go_sem] using g1)
  by_cases e : i = k
  · subst e
    rw [World.cell?_setCell_other _ _ _ _ (by simp), h1] at c1
    have c0 := c0.trans (show _ = some (Value.int .i64 (f0 i)) by simp [go_sem, h0])
    refine ⟨⟨f0 i, f1 i, ?_, ?_, fun _ => ⟨rfl, rfl⟩⟩, ?_, ?_⟩
    · rw [World.cell?_setCell_other _ _ _ _ (by simp)]; exact c0
    · simp [go_sem, c1]
    · simpa [go_sem] using q0
    · simpa [go_sem] using q1
  · rw [World.cell?_setCell_other _ _ _ _ (by simp <;> omega), h0] at c0
    rw [World.cell?_setCell_other _ _ _ _ (by simp <;> omega), h1] at c1
    refine ⟨⟨x0, x1, ?_, ?_, fun hlt => hx (by omega)⟩, ?_, ?_⟩
    · rw [World.cell?_setCell_other _ _ _ _ (by simp <;> omega)]; exact c0
    · rw [World.cell?_setCell_other _ _ _ _ (by simp <;> omega)]; exact c1
    · simpa [go_sem] using q0
    · simpa [go_sem] using q1
set_option maxRecDepth 100000 in
set_option maxHeartbeats 1600000 in
theorem w_markWriteS_full (c len cap : Nat) (f0 : Nat → Int) (f1 : Nat → ByteArray) (k0 : Nat) (w : World) (hl : len ≤ 4294967296) (h0 : 1 ≤ k0) (h1 : k0 ≤ 100000000000) (hO : OutWrite c len len f0 f1 w) :
    Calls Tryd.prog 15 #[.slice (some ⟨c, 0, none⟩) len cap, .int .i64 k0] w fun e w' => e = .returned (.int .i64 (k0 + 2 * (len : Int))) ∧ Only c w w' ∧ OutWrite c len len (fun i => ((k0 + 2 * i : Nat) : Int)) (fun i => mt (k0 + 2 * i + 1)) w' := by
  go_enter Tryd.func15, Tryd.ntmps15
  go_wp2_with fail
  go_loopw [1, 5] (fun kk i wr => ∃ q : Nat, q ≤ len ∧ i = .int .i64 q ∧ kk = .int .i64 ((k0 + 2 * q : Nat) : Int) ∧ Only c w wr ∧ OutWrite c len q (fun i => ((k0 + 2 * i : Nat) : Int)) (fun i => mt (k0 + 2 * i + 1)) wr) (fun _ i _ => len - (intOf i).toNat)
  case atStart => exact ⟨0, Nat.zero_le _, rfl, by simp, Only.refl _ _, hO.forget _ _⟩
  case round =>
    obtain ⟨q, hq, rfl, rfl, ho, hO'⟩ := hrel
    by_cases hlt : q < len
    · obtain ⟨⟨y0, y1, i0, i1, _⟩, g0, g1⟩ := hO'.2 q hlt
      have hlt' : (q : Int) < (len : Int) := by omega
      have MT := hide (fun w => w_markText (k0 + 2 * q + 1) w (by omega) (by omega))
      have hc := hO'.1
      rw [show ((k0 + 2 * q + 1 : Nat) : Int) = ((k0 + 2 * q : Nat) : Int) + 1 by omega] at MT
      have hb2 : ((k0 + 2 * q : Nat) : Int) ≤ 1000000000000 := by omega
      have hb3 : (0 : Int) ≤ ((k0 + 2 * q : Nat) : Int) := by omega
      have hkk := hide (show ((k0 + 2 * (q + 1) : Nat) : Int) = ((k0 + 2 * q : Nat) : Int) + 1 + 1 by omega)
      have hset := hide (fun w1 hb => hO'.set2 (w1 := w1) hlt hb)
      clear hO hO'
      generalize hKK : ((k0 + 2 * q : Nat) : Int) = K at *
      clear hKK
      go_wp2_with fail
      refine (MT.out _).mono ?_
      rintro e w1 ⟨rfl, b1⟩
      obtain ⟨bc, bf⟩ := bcell b1
      have i0 := (bc c (q * 2) (by simpa using hc)).trans (show _ = some (Value.int .i64 K) by simp [go_sem, i0])
      have i1 := (bc c (q * 2 + 1) (by simpa using hc)).trans (show _ = some (Value.string y1) by rw [World.cell?_setCell_other _ _ _ _ (by simp)]; exact i1)
      have g1 := (bf c (q * 2 + 1) (by simpa using hc)).trans (show _ = false by simpa [go_sem] using g1)
      clear bc bf
      go_wp2_with fail
      refine ⟨⟨q + 1, by omega, by go_num, by rw [hkk.out], ?_, hset.out w1 b1⟩, by simp [intOf]; omega⟩
      have ho1 := ho.setCell (q * 2) (.int .i64 K)
      exact (ho1.trans (Only.of_below b1)).setCell _ _
    · have hk' : q = len := by omega
      subst hk'
      go_wp2_with fail
      go_ret
      exact ⟨ret_int (by omega), ho, hO'⟩
set_option maxRecDepth 100000 in
set_option maxHeartbeats 800000 in
theorem w_markWriteS_nil (a : Option Addr) (cap : Nat) (k0 : Nat) (w : World) :
    Calls Tryd.prog 15 #[.slice a 0 cap, .int .i64 k0] w fun e w' => e = .returned (.int .i64 k0) ∧ w' = w := by
  go_enter Tryd.func15, Tryd.ntmps15
  go_wp2_with fail
  go_loop [1, 5] (fun kk i => kk = .int .i64 k0 ∧ i = .int .i64 0) (fun _ i => 0 - (intOf i).toNat)
  case atStart => exact ⟨rfl, rfl⟩
  case round =>
    obtain ⟨rfl, rfl⟩ := hrel
    go_wp2_with fail
    go_ret
    exact ⟨rfl, rfl⟩
set_option maxRecDepth 100000 in
set_option maxHeartbeats 1600000 in
theorem w_heldWriteS (a : Option Addr) (n cap : Nat) (k0 : Nat) (w : World) (hl : n ≤ 4294967296) (h0 : 1 ≤ k0) (h1 : k0 ≤ 100000000000) (hR : RowWrite a n (fun i => ((k0 + 2 * i : Nat) : Int)) (fun i => mt (k0 + 2 * i + 1)) w) :
    Calls Tryd.prog 16 #[.slice a n cap, .int .i64 k0] w fun e w' => e = .returned (.int .i64 (k0 + 2 * (n : Int))) ∧ Below w.heap.size w w' := by
  go_enter Tryd.func16, Tryd.ntmps16
  go_wp2_with fail
  go_loopw [1, 5] (fun kk i wr => ∃ q : Nat, q ≤ n ∧ i = .int .i64 q ∧ kk = .int .i64 ((k0 + 2 * q : Nat) : Int) ∧ Below w.heap.size w wr) (fun _ i _ => n - (intOf i).toNat)
  case atStart => exact ⟨0, Nat.zero_le _, rfl, by simp, Below.refl _ _⟩
  case round =>
    obtain ⟨q, hq, rfl, rfl, hb⟩ := hrel
    by_cases hlt : q < n
    · obtain ⟨b, off, rfl, hbw, c0, c1⟩ := hR q hlt
      have i0 := (hb.cell (p := ⟨b, off + q * 2, none⟩) hbw).trans c0
      have i1 := cell_regrown ((hb.cell (p := ⟨b, off + q * 2 + 1, none⟩) hbw).trans c1)
      have hlt' : (q : Int) < (n : Int) := by omega
      have MT := hide (fun w => w_markText (k0 + 2 * q + 1) w (by omega) (by omega))
      rw [show ((k0 + 2 * q + 1 : Nat) : Int) = ((k0 + 2 * q : Nat) : Int) + 1 by omega] at MT
      have hb2 : ((k0 + 2 * q : Nat) : Int) ≤ 1000000000000 := by omega
      have hb3 : (0 : Int) ≤ ((k0 + 2 * q : Nat) : Int) := by omega
      have hkk := hide (show ((k0 + 2 * (q + 1) : Nat) : Int) = ((k0 + 2 * q : Nat) : Int) + 1 + 1 by omega)
      clear hR c0 c1
      dsimp only at i0 i1
      generalize hX : mt (k0 + 2 * q + 1) = X at *
      clear hX
      generalize hKK : ((k0 + 2 * q : Nat) : Int) = K at *
      clear hKK
      go_wp2_with fail
      refine wp_region_quiet_below (by kernel_rfl) (by kernel_rfl) ?_
      repeat (first | go_big_quiet_step (((go_at_call 36; exact Calls.regrown_of (MT.out _)))) | quiet_step (((go_at_call 36; exact Calls.regrown_of (MT.out _)))))
      refine wpQuiet_nil ?_
      intro _ hw'
      obtain ⟨⟨dq, osq⟩, hw''⟩ := hw'
      subst hw''
      have hqq := below_regrown wr dq osq
      generalize Go.Sort.grow (redrawn wr dq) osq = wq at hqq ⊢
      have hbq := hb.trans (hqq.mono hb.size)
      clear hqq i0 i1
      go_wp2_with fail
      exact ⟨⟨q + 1, by omega, by go_num, by rw [hkk.out], hbq⟩, by simp [intOf]; omega⟩
    · have hk' : q = n := by omega
      subst hk'
      clear hR
      go_wp2_with fail
      go_ret
      exact ⟨ret_int (by omega), hb⟩
set_option maxRecDepth 100000 in
set_option maxHeartbeats 800000 in
theorem w_markStringS_nil (a : Option Addr) (cap : Nat) (k0 : Nat) (w : World) :
    Calls Tryd.prog 35 #[.slice a 0 cap, .int .i64 k0] w fun e w' => e = .returned (.int .i64 k0) ∧ w' = w := by
  go_enter Tryd.func35, Tryd.ntmps35
  go_wp2_with fail
  go_loop [1, 5] (fun kk i => kk = .int .i64 k0 ∧ i = .int .i64 0) (fun _ i => 0 - (intOf i).toNat)
  case atStart => exact ⟨rfl, rfl⟩
  case round =>
    obtain ⟨rfl, rfl⟩ := hrel
    go_wp2_with fail
    go_ret
    exact ⟨rfl, rfl⟩
end Go.Proofs.YtnpnhdaehddnmaaDoor
