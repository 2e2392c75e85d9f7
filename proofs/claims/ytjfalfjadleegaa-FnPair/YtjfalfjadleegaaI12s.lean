/- Both sides of a pair of the program, and what both meet. -/
import Derived.Test.YtjfalfjadleegaaI12r
namespace Go.Proofs.Ytjfalfjadleegaa
open Go.RowKit

/-- The cells of a side of the program. -/
abbrev sdI (s : Se) (a : Int) (v : Value) (c : Int) : List Value := [.int .i64 s.st, .int .i64 s.ho, .int .i64 s.le, .int .i64 s.qu, .int .i64 s.up, .int .i64 a, v, .int .i64 c]
/-- Two sides in memory: sessions, what was told to each, how much of it has come. -/
def PI (e : TypeId) (base b1 b2 : Nat) (x : Se) (a c1 : Int) (T1 : List Int) (y : Se) (b c2 : Int) (T2 : List Int) (w : World) : Prop :=
  b1 ≠ b2 ∧ b1 < base ∧ b2 < base ∧ base ≤ w.heap.size ∧ ∃ v1 v2, Mut w b1 (sdI x a v1 c1) ∧ Mut w b2 (sdI y b v2 c2) ∧ OwnN e .i64 base v1 T1 w ∧ OwnN e .i64 base v2 T2 w ∧ (∀ j, v1.ownBlock = some j → v2.ownBlock ≠ some j)
theorem PI.symm {e : TypeId} {base b1 b2 : Nat} {x : Se} {a c1 : Int} {T1 : List Int} {y : Se} {b c2 : Int} {T2 : List Int} {w : World} (h : PI e base b1 b2 x a c1 T1 y b c2 T2 w) : PI e base b2 b1 y b c2 T2 x a c1 T1 w := by
  obtain ⟨h1, h2, h3, h4, v1, v2, m1, m2, o1, o2, hn⟩ := h
  exact ⟨Ne.symm h1, h3, h2, h4, v2, v1, m2, m1, o2, o1, fun j hj hk => hn j hk hj⟩
theorem PI.below {e : TypeId} {base b1 b2 : Nat} {x : Se} {a c1 : Int} {T1 : List Int} {y : Se} {b c2 : Int} {T2 : List Int} {w w' : World} (h : PI e base b1 b2 x a c1 T1 y b c2 T2 w) (k : Below w.heap.size w w') : PI e base b1 b2 x a c1 T1 y b c2 T2 w' := by
  obtain ⟨h1, h2, h3, h4, v1, v2, m1, m2, o1, o2, hn⟩ := h
  exact ⟨h1, h2, h3, Nat.le_trans h4 k.size, v1, v2, m1.below k, m2.below k, ownN_below o1 k, ownN_below o2 k, hn⟩
/-- Nothing that was there has turned but the two sides and what lies behind the base. -/
abbrev PK (base b1 b2 : Nat) (w w' : World) : Prop := OnlyP (fun j => j = b1 ∨ j = b2 ∨ base ≤ j) w w'
theorem own12_onlyP {P : Nat → Prop} {e : TypeId} {k : IntKind} {w w' : World} {base : Nat} {v : Value} {L : List Int} (h : OwnN e k base v L w) (hb : OnlyP P w w') (hc : ∀ k, v.ownBlock = some k → ¬ P k) : OwnN e k base v L w' :=
  ownW_onlyP (show OwnW e 1 base v L.length (ncells k L) w from h) hb hc
theorem i_meetsP (base b1 b2 : Nat) (x : Se) (a c1 : Int) (T1 : List Int) (y : Se) (b c2 : Int) (T2 : List Int) (k n : Int) (w : World) (hG : GS x) (hL : T2.length ≤ 1000) (h : PI 3 base b1 b2 x a c1 T1 y b c2 T2 w) :
    Calls Try.prog 20 #[.pointer (some ⟨b1, 0, none⟩), .agg #[.int .i64 k, .int .i64 n], .pointer (some ⟨b2, 0, none⟩)] w fun e w' => e = .returned (.tuple #[]) ∧ PI 3 base b1 b2 (stp x k n).1 a c1 T1 y b c2 (T2 ++ tl12 (stp x k n).2) w' ∧ PK base b1 b2 w w' := by
  obtain ⟨h1, h2, h3, h4, v1, v2, m1, m2, o1, o2, hn⟩ := h
  obtain ⟨x0, x1, x2, x3, x4⟩ := x
  obtain ⟨y0, y1, y2, y3, y4⟩ := y
  refine (i_meets x0 x1 x2 x3 x4 a c1 v1 y0 y1 y2 y3 y4 b c2 v2 k n b1 b2 base T2 w hG h1 h2 h3 h4 hL m1 m2 o2).mono ?_
  rintro e w' ⟨rfl, v2', m1', m2', o2', hP, hv⟩
  have hl2 := ownN_lt12 o2
  have hl1 := ownN_lt12 o1
  refine ⟨rfl, ⟨h1, h2, h3, Nat.le_trans h4 hP.2.2.2.1, v1, v2', m1', m2', own12_onlyP o1 hP ?_, o2', ?_⟩, hP.mono ?_⟩
  · rintro j hj (e | e | e)
    · have := (hl1 j hj).1; omega
    · have := (hl1 j hj).1; omega
    · exact hn j hj e
  · intro j hj e
    rcases hv with q | ⟨i, hi, q⟩
    · exact hn j hj (by rw [← q]; exact e)
    · rw [q] at e
      have := (hl1 j hj).2
      simp only [Option.some.injEq] at e
      omega
  · rintro j _ (e | e | e)
    · exact .inl e
    · exact .inr (.inl e)
    · exact .inr (.inr (hl2 j e).1)
set_option maxRecDepth 100000 in
set_option maxHeartbeats 1600000 in
theorem i_both (base b1 b2 : Nat) (x : Se) (a c1 : Int) (T1 : List Int) (y : Se) (b c2 : Int) (T2 : List Int) (k : Int) (w : World) (hx : GS x) (hy : GS y) (l1 : T1.length ≤ 1000) (l2 : T2.length ≤ 1000) (h : PI 3 base b1 b2 x a c1 T1 y b c2 T2 w) :
    Calls Try.prog 12 #[.pointer (some ⟨b1, 0, none⟩), .pointer (some ⟨b2, 0, none⟩), .int .i64 k] w fun e w' => e = .returned (.tuple #[]) ∧ PI 3 base b1 b2 (stp x k 0).1 a c1 (T1 ++ tl12 (stp y k 0).2) (stp y k 0).1 b c2 (T2 ++ tl12 (stp x k 0).2) w' ∧ PK base b1 b2 w w' := by
  have s1 := hide (fun w h => i_meetsP base b1 b2 x a c1 T1 y b c2 T2 k 0 w hx l2 h)
  have s2 := hide (fun w h => i_meetsP base b2 b1 y b c2 (T2 ++ tl12 (stp x k 0).2) (stp x k 0).1 a c1 T1 k 0 w hy l1 h)
  clear hx hy l1 l2
  generalize stp x k 0 = X at *
  generalize stp y k 0 = Y at *
  go_enter Try.func12, Try.ntmps12
  go_wp2_with fail
  refine (s1.out _ h).mono ?_
  rintro e w1 ⟨rfl, h1, k1⟩
  clear h
  go_wp2_with fail
  refine (s2.out _ h1.symm).mono ?_
  rintro e w2 ⟨rfl, h2, k2⟩
  clear h1
  go_wp2_with fail
  go_end0
  exact ⟨rfl, h2.symm, k1.trans (k2.mono (fun j _ hj => by rcases hj with e | e | e; exact .inr (.inl e); exact .inl e; exact .inr (.inr e)))⟩
end Go.Proofs.Ytjfalfjadleegaa
