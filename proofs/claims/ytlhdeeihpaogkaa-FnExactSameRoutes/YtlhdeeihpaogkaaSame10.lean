/- Lists of numbers compared, and numbers looked for in them, by program and specification. -/
import Derived.Test.YtlhdeeihpaogkaaPlain10
import Derived.Lib.QuietBelow
namespace Go.Proofs.Ytlhdeeihpaogkaa
open Go.RowKit

/-- m lists at a, none longer than its room. -/
def RowLK (a : Option Addr) (m : Nat) (T : Nat → Lc) (w : World) : Prop := ∀ i, i < m → ∃ (b off : Nat) (a0 : Option Addr) (c0 : Nat), a = some ⟨b, off, none⟩ ∧ b < w.heap.size ∧ w.cell? ⟨b, off + i, none⟩ = some (.slice a0 (T i).n c0) ∧ (T i).n ≤ c0 ∧ RowInt a0 (T i).n (T i).f w
theorem RowLK.below {a : Option Addr} {m : Nat} {T : Nat → Lc} {w w' : World} (h : RowLK a m T w) (k : Below w.heap.size w w') : RowLK a m T w' := by
  intro i hi
  obtain ⟨b, off, a0, c0, ha, hb, h0, hc0, ht⟩ := h i hi
  obtain ⟨hc, _⟩ := bcell k
  exact ⟨b, off, a0, c0, ha, Nat.lt_of_lt_of_le hb k.size, (hc _ _ hb).trans h0, hc0, ht.below k⟩
def RowK3 (a : Option Addr) (m : Nat) (U : Nat → Pl) (w : World) : Prop := ∀ i, i < m → ∃ (b off : Nat) (a0 : Option Addr) (c0 : Nat), a = some ⟨b, off, none⟩ ∧ b < w.heap.size ∧ w.cell? ⟨b, off + i, none⟩ = some (.slice a0 (U i).n c0) ∧ (U i).n ≤ c0 ∧ RowLK a0 (U i).n (U i).T w
theorem RowK3.below {a : Option Addr} {m : Nat} {U : Nat → Pl} {w w' : World} (h : RowK3 a m U w) (k : Below w.heap.size w w') : RowK3 a m U w' := by
  intro i hi
  obtain ⟨b, off, a0, c0, ha, hb, h0, hc0, ht⟩ := h i hi
  obtain ⟨hc, _⟩ := bcell k
  exact ⟨b, off, a0, c0, ha, Nat.lt_of_lt_of_le hb k.size, (hc _ _ hb).trans h0, hc0, ht.below k⟩
theorem RowLO.rowK {c n : Nat} {X : Nat → Nat} {hi : Nat} {T : Nat → Lc} {w : World} (h : RowLO c n X hi T w) : RowLK (some ⟨c, 0, none⟩) n T w := by
  intro i hi
  obtain ⟨h1, h3, hj, h4, c0, o1⟩ := h.2 i hi
  exact ⟨c, 0, _, _, rfl, h4, by rw [Nat.zero_add]; exact c0, Nat.le_refl _, o1.row⟩
theorem RowSO.rowK {c n : Nat} {X H : Nat → Nat} {hi : Nat} {U : Nat → Pl} {w : World} (h : RowSO c n X H hi U w) : RowK3 (some ⟨c, 0, none⟩) n U w := by
  intro i hi
  obtain ⟨h1, h2, h3, hj, h4, c0, Y, o1⟩ := h.2 i hi
  exact ⟨c, 0, _, _, rfl, h4, by rw [Nat.zero_add]; exact c0, Nat.le_refl _, o1.rowK⟩
theorem RowInt.take {a : Option Addr} {n k : Nat} {f : Nat → Int} {w : World} (h : RowInt a n f w) (hk : k ≤ n) : RowInt a k f w := fun i hi => h i (by omega)
theorem RowInt.tail {b off n : Nat} {p : Lc} {w : World} (hn : p.n = n) (h : RowInt (some ⟨b, off, none⟩) n p.f w) : RowInt (some ⟨b, off + 1, none⟩) (tl p).n (tl p).f w := by
  intro i hi
  have hi' : 1 + i < n := by have : (tl p).n = p.n - 1 := rfl; omega
  obtain ⟨b', off', hab, hb, h0⟩ := h (1 + i) hi'
  simp only [Option.some.injEq, Addr.mk.injEq, and_true] at hab
  obtain ⟨rfl, rfl⟩ := hab
  exact ⟨b, off + 1, rfl, hb, by rw [Nat.add_assoc]; exact h0⟩
set_option maxRecDepth 100000 in
set_option maxHeartbeats 800000 in
theorem i_same (a a' : Option Addr) (c c' : Nat) (p q : Lc) (w : World) (hp : p.n ≤ 1048576) (_hq : q.n ≤ 1048576) (hR : RowInt a p.n p.f w) (hQ : RowInt a' q.n q.f w) :
    Calls Try.prog 109 #[.slice a p.n c, .slice a' q.n c'] w fun e w' => e = .returned (.bool (pB (Same p q))) ∧ Below w.heap.size w w' := by
  have hT : Hid (Same p q → pB (Same p q) = true) := pB_t
  have hF : Hid (¬ Same p q → pB (Same p q) = false) := pB_f
  generalize pB (Same p q) = r at *
  by_cases hn : p.n = q.n
  · have hT' : Hid ((∀ i, i < p.n → p.f i = q.f i) → r = true) := fun h => hT.out ⟨hn, h⟩
    have hF' : Hid (∀ i, i < p.n → p.f i ≠ q.f i → r = false) := fun i hi h => hF.out (fun k => h (k.2 i hi))
    clear hT hF
    have hne : ((p.n : Int) != (q.n : Int)) = false := by simp [hn]
    rw [← hn] at hQ hne ⊢
    clear hn
    generalize p.n = n at *
    go_enter Try.func109, Try.ntmps109
    go_wp2_with fail
    go_loopw [13] (fun i wr => ∃ k : Nat, k ≤ n ∧ i = .int .i64 k ∧ Hid (∀ j, j < k → p.f j = q.f j) ∧ Below w.heap.size w wr) (fun i _ => n - (intOf i).toNat)
    case atStart => exact ⟨0, Nat.zero_le _, rfl, fun j hj => absurd hj (by omega), Below.refl _ _⟩
    case round =>
      obtain ⟨k, hk, rfl, hall, hb⟩ := hrel
      by_cases hlt : k < n
      · obtain ⟨b, off, rfl, hbw, h0⟩ := hR k hlt
        obtain ⟨b', off', rfl, hbw', i0⟩ := hQ k hlt
        have h0 := (hb.cell (p := ⟨b, off + k, none⟩) hbw).trans h0
        have i0 := (hb.cell (p := ⟨b', off' + k, none⟩) hbw').trans i0
        have hlt' : (k : Int) < (n : Int) := by omega
        by_cases he : p.f k = q.f k
        · have hN : Hid (∀ j, j < k + 1 → p.f j = q.f j) := fun j hj => by
            by_cases e : j = k
            · subst e; exact he
            · exact hall.out j (by omega)
          have hnf : (p.f k != q.f k) = false := by simp [he]
          clear hR hQ hall he hT' hF'
          generalize p.f k = x at *
          generalize q.f k = y at *
          go_wp2_with fail
          go_quiet (fail)
          go_wp2_with fail
          exact ⟨⟨k + 1, by omega, by go_num, hN, below_drewN hb _⟩, by simp [intOf]; omega⟩
        · have hE := hide (hF'.out k hlt he)
          have hnf : (p.f k != q.f k) = true := by simpa using he
          clear hR hQ hall he hT' hF'
          generalize p.f k = x at *
          generalize q.f k = y at *
          go_wp2_with fail
          go_quiet (fail)
          go_wp2_with fail
          go_ret
          exact ⟨by rw [hE.out]; rfl, below_drewN hb _⟩
      · have hlt' : ¬ (k : Int) < (n : Int) := by omega
        obtain rfl : k = n := by omega
        have hE := hide (hT'.out hall.out)
        clear hall hT' hF'
        go_wp2_with fail
        go_ret
        exact ⟨by rw [hE.out]; rfl, hb⟩
  · have hE := hide (hF.out (fun h => hn h.1))
    have hne : ((p.n : Int) != (q.n : Int)) = true := by simp; omega
    clear hT hF hR hQ hn
    generalize p.n = n at *
    generalize q.n = m at *
    go_enter Try.func109, Try.ntmps109
    go_wp2_with fail
    go_ret
    exact ⟨by rw [hE.out]; rfl, Below.refl _ _⟩
set_option maxRecDepth 100000 in
set_option maxHeartbeats 800000 in
theorem s_same (a a' : Option Addr) (c c' : Nat) (p q : Lc) (w : World) (hp : p.n ≤ 1048576) (_hq : q.n ≤ 1048576) (hR : RowInt a p.n p.f w) (hQ : RowInt a' q.n q.f w) :
    Calls Try.prog 108 #[.slice a p.n c, .slice a' q.n c'] w fun e w' => e = .returned (.bool (pB (Same p q))) ∧ Below w.heap.size w w' := by
  have hT : Hid (Same p q → pB (Same p q) = true) := pB_t
  have hF : Hid (¬ Same p q → pB (Same p q) = false) := pB_f
  generalize pB (Same p q) = r at *
  by_cases hn : p.n = q.n
  · have hT' : Hid ((∀ i, i < p.n → p.f i = q.f i) → r = true) := fun h => hT.out ⟨hn, h⟩
    have hF' : Hid (∀ i, i < p.n → p.f i ≠ q.f i → r = false) := fun i hi h => hF.out (fun k => h (k.2 i hi))
    clear hT hF
    have hne : ((p.n : Int) != (q.n : Int)) = false := by simp [hn]
    rw [← hn] at hQ hne ⊢
    clear hn
    generalize p.n = n at *
    go_enter Try.func108, Try.ntmps108
    go_wp2_with fail
    go_loopw [13] (fun i wr => ∃ k : Nat, k ≤ n ∧ i = .int .i64 k ∧ Hid (∀ j, j < k → p.f j = q.f j) ∧ Below w.heap.size w wr) (fun i _ => n - (intOf i).toNat)
    case atStart => exact ⟨0, Nat.zero_le _, rfl, fun j hj => absurd hj (by omega), Below.refl _ _⟩
    case round =>
      obtain ⟨k, hk, rfl, hall, hb⟩ := hrel
      by_cases hlt : k < n
      · obtain ⟨b, off, rfl, hbw, h0⟩ := hR k hlt
        obtain ⟨b', off', rfl, hbw', i0⟩ := hQ k hlt
        have h0 := (hb.cell (p := ⟨b, off + k, none⟩) hbw).trans h0
        have i0 := (hb.cell (p := ⟨b', off' + k, none⟩) hbw').trans i0
        have hlt' : (k : Int) < (n : Int) := by omega
        by_cases he : p.f k = q.f k
        · have hN : Hid (∀ j, j < k + 1 → p.f j = q.f j) := fun j hj => by
            by_cases e : j = k
            · subst e; exact he
            · exact hall.out j (by omega)
          have hnf : (p.f k != q.f k) = false := by simp [he]
          clear hR hQ hall he hT' hF'
          generalize p.f k = x at *
          generalize q.f k = y at *
          go_wp2_with fail
          go_quiet (fail)
          go_wp2_with fail
          exact ⟨⟨k + 1, by omega, by go_num, hN, below_drewN hb _⟩, by simp [intOf]; omega⟩
        · have hE := hide (hF'.out k hlt he)
          have hnf : (p.f k != q.f k) = true := by simpa using he
          clear hR hQ hall he hT' hF'
          generalize p.f k = x at *
          generalize q.f k = y at *
          go_wp2_with fail
          go_quiet (fail)
          go_wp2_with fail
          go_ret
          exact ⟨by rw [hE.out]; rfl, below_drewN hb _⟩
      · have hlt' : ¬ (k : Int) < (n : Int) := by omega
        obtain rfl : k = n := by omega
        have hE := hide (hT'.out hall.out)
        clear hall hT' hF'
        go_wp2_with fail
        go_ret
        exact ⟨by rw [hE.out]; rfl, hb⟩
  · have hE := hide (hF.out (fun h => hn h.1))
    have hne : ((p.n : Int) != (q.n : Int)) = true := by simp; omega
    clear hT hF hR hQ hn
    generalize p.n = n at *
    generalize q.n = m at *
    go_enter Try.func108, Try.ntmps108
    go_wp2_with fail
    go_ret
    exact ⟨by rw [hE.out]; rfl, Below.refl _ _⟩
end Go.Proofs.Ytlhdeeihpaogkaa
