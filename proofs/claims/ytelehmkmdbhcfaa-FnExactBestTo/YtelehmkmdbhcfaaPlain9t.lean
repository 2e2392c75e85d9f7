/- One round of looking at the least first, by links in their order, in plain words. -/
import Derived.Test.YtelehmkmdbhcfaaPlain9b
import Derived.Test.YtelehmkmdbhcfaaPlain9q
namespace Go.Proofs.Ytelehmkmdbhcfaa
open Go.RowKit

/-- Behind the first k links. -/
def Ga9 (L : Int → Int → Int) (T : Nat → Lc) (f0 : Nat → Int) (B : List Nat) (a : Nat) (x : Int) (b : Nat → Int) (k : Nat) (r : Nat → Int) : Prop :=
  ∀ v : Nat, v < 6 → ((∃ i, i < k ∧ f0 (B.getD i 0) = (v : Int)) → r v = min (b v) (ap9 T (L v a) x)) ∧ ((¬ ∃ i, i < k ∧ f0 (B.getD i 0) = (v : Int)) → r v = b v)
theorem ga_zero (L : Int → Int → Int) (T : Nat → Lc) (f0 : Nat → Int) (B : List Nat) (a : Nat) (x : Int) (b : Nat → Int) : Ga9 L T f0 B a x b 0 b :=
  fun _ _ => ⟨fun ⟨_, h, _⟩ => absurd h (by omega), fun _ => rfl⟩
theorem ga_step {L : Int → Int → Int} {T : Nat → Lc} {f0 : Nat → Int} {B : List Nat} {a : Nat} {x : Int} {b : Nat → Int} {k : Nat} {r : Nat → Int} (h : Ga9 L T f0 B a x b k r) {q : Nat} (hq : f0 (B.getD k 0) = (q : Int)) {y : Int} (hy : y = ap9 T (L q a) x) : Ga9 L T f0 B a x b (k + 1) (fun v => if v = q then min (r v) y else r v) := by
  intro v hv
  obtain ⟨h1, h2⟩ := h v hv
  by_cases e : v = q
  · subst e
    refine ⟨fun _ => ?_, fun hn => absurd ⟨k, by omega, hq⟩ hn⟩
    dsimp only
    rw [if_pos rfl, hy]
    by_cases c : ∃ i, i < k ∧ f0 (B.getD i 0) = (v : Int)
    · rw [h1 c]
      omega
    · rw [h2 c]
  · dsimp only
    rw [if_neg e]
    refine ⟨fun ⟨i, hi, hf⟩ => h1 ⟨i, ?_, hf⟩, fun hn => h2 fun ⟨i, hi, hf⟩ => hn ⟨i, by omega, hf⟩⟩
    by_cases c : i = k
    · subst c
      rw [hq] at hf
      omega
    · omega
/-- Speaker a itself keeps its weight. -/
theorem ga_self {L : Int → Int → Int} {T : Nat → Lc} {f0 f1 : Nat → Int} {ks : List Nat} {a : Nat} {x : Int} {b : Nat → Int} {s : Nat → Bool} (hs : s a = true) {k : Nat} (hk : k ≤ (bk9 f0 f1 a s ks).length) {r : Nat → Int} (ha : a < 6) (h : Ga9 L T f0 (bk9 f0 f1 a s ks) a x b k r) : r a = b a := by
  refine (h a ha).2 fun ⟨i, hi, hf⟩ => ?_
  obtain ⟨_, _, m3⟩ := bk9_mem.1 (getD_mem9 (B := bk9 f0 f1 a s ks) (j := i) (by omega))
  rw [hf, Int.toNat_natCast, hs] at m3
  cases m3
theorem ga_all {m : Nat} {T : Nat → Lc} {n : Nat} {f0 f1 f2 : Nat → Int} (hA : ∀ i, i < n → ArOk m (f0 i) (f1 i) (f2 i)) {a : Nat} {s : Nat → Bool} {b r : Nat → Int} (h : Ga9 (fun x y => lab9 f0 f1 f2 x y n) T f0 (bk9 f0 f1 a s (lk9 f0 f1 n)) a (b a) b (bk9 f0 f1 a s (lk9 f0 f1 n)).length r) : ∀ v, v < 6 → r v = st9 (fun x y => lab9 f0 f1 f2 x y n) T a s b v := by
  intro v hv
  obtain ⟨h1, h2⟩ := h v hv
  by_cases q : s v = false ∧ 0 ≤ (fun x y => lab9 f0 f1 f2 x y n) (v : Int) (a : Int)
  · rw [st9_yes q]
    apply h1
    have h2' : 0 ≤ lab9 f0 f1 f2 (v : Int) (a : Int) n := q.2
    cases hf : fst9 f0 f1 (v : Int) (a : Int) n with
    | none =>
      unfold lab9 at h2'
      rw [hf] at h2'
      simp at h2'
    | some i =>
      obtain ⟨g1, g2, g3⟩ := fst9_some.1 hf
      have hi : i ∈ lk9 f0 f1 n := lk9_mem.2 ⟨g1, by rw [g2.1, g2.2]; exact hf⟩
      have hb : i ∈ bk9 f0 f1 a s (lk9 f0 f1 n) := bk9_mem.2 ⟨hi, g2.2, by rw [g2.1, Int.toNat_natCast]; exact q.1⟩
      obtain ⟨j, hj, e⟩ := List.getElem_of_mem hb
      exact ⟨j, hj, by rw [List.getD_eq_getElem?_getD, List.getElem?_eq_getElem hj, Option.getD_some, e, g2.1]⟩
  · rw [st9_no q]
    apply h2
    rintro ⟨i, hi, hf⟩
    obtain ⟨m1, m2, m3⟩ := bk9_mem.1 (getD_mem9 hi)
    generalize (bk9 f0 f1 a s (lk9 f0 f1 n)).getD i 0 = j at *
    obtain ⟨l1, l2⟩ := lk9_lab (f2 := f2) m1
    have ar := hA j l1
    rw [hf, Int.toNat_natCast] at m3
    rw [hf, m2] at l2
    exact q ⟨m3, by show 0 ≤ lab9 f0 f1 f2 (v : Int) (a : Int) n; rw [l2]; exact ar.2.2.2.2.2.1⟩
end Go.Proofs.Ytelehmkmdbhcfaa
