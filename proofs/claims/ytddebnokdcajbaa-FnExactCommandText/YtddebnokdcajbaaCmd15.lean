/- Commands in memory: compared; lists of one's own. -/
import Derived.Test.YtddebnokdcajbaaAns15
namespace Go.Proofs.Ytddebnokdcajbaa
open Go.RowKit

/-- A command: whether it sets, its path and its value. -/
structure Cm15 where
  s : Bool
  t : Lf
def cm0 : Cm15 := ⟨false, lf0⟩
/-- N commands at a. -/
def RowC (a : Option Addr) (N : Nat) (U : Nat → Cm15) (w : World) : Prop := ∀ i, i < N → ∃ (b off : Nat) (a0 : Option Addr) (c0 : Nat), a = some ⟨b, off, none⟩ ∧ b < w.heap.size ∧
  w.cell? ⟨b, off + i * 3, none⟩ = some (.bool (U i).s) ∧ w.cell? ⟨b, off + i * 3 + 1, none⟩ = some (.slice a0 (U i).t.n c0) ∧ w.cell? ⟨b, off + i * 3 + 2, none⟩ = some (.string (U i).t.v) ∧ (U i).t.n ≤ c0 ∧ RowStr a0 (U i).t.n (U i).t.p w
theorem RowC.below {a : Option Addr} {N : Nat} {U : Nat → Cm15} {w w' : World} (h : RowC a N U w) (k : Below w.heap.size w w') : RowC a N U w' := by
  intro i hi
  obtain ⟨b, off, a0, c0, ha, hb, h0, h1, h2, hK, ht⟩ := h i hi
  obtain ⟨hc, _⟩ := bcell k
  exact ⟨b, off, a0, c0, ha, Nat.lt_of_lt_of_le hb k.size, (hc _ _ hb).trans h0, (hc _ _ hb).trans h1, (hc _ _ hb).trans h2, hK, ht.below k⟩
/-- The command at a place. -/
def TC (L : List Cm15) (i : Nat) : Cm15 := L.getD i cm0
theorem TC_eq {L : List Cm15} {i : Nat} (h : i < L.length) : TC L i = L[i] := by
  unfold TC
  rw [List.getD_eq_getElem?_getD, List.getElem?_eq_getElem h]
  rfl
set_option maxRecDepth 100000 in
set_option maxHeartbeats 800000 in
theorem w_eqCommand (a0 b0 : Option Addr) (c0 e0 : Nat) (u : Cm15) (w : World) (h0 : u.t.n ≤ 4294967296) (R : RowStr a0 u.t.n u.t.p w) (Q : RowStr b0 u.t.n u.t.p w) :
    Calls Try.prog 8 #[.agg #[.bool u.s, .slice a0 u.t.n c0, .string u.t.v], .agg #[.bool u.s, .slice b0 u.t.n e0, .string u.t.v]] w fun e w' => e = .returned (.bool true) ∧ Below w.heap.size w w' := by
  have s1 := hide (fun w R Q => w_eqStringS a0 b0 u.t.n c0 e0 u.t.p w h0 R Q)
  have k0 : (u.s != u.s) = false := by simp
  clear h0
  have d0 : Below w.heap.size w ((w.alloc (.cells #[.bool u.s, .slice a0 u.t.n c0, .string u.t.v] 28)).alloc (.cells #[.bool u.s, .slice b0 u.t.n e0, .string u.t.v] 28)) := below_box2 (Below.refl _ _)
  have M0 := (Mut.new w #[.bool u.s, .slice a0 u.t.n c0, .string u.t.v] 28).alloc (.cells #[.bool u.s, .slice b0 u.t.n e0, .string u.t.v] 28)
  have M1 := Mut.new (w.alloc (.cells #[.bool u.s, .slice a0 u.t.n c0, .string u.t.v] 28)) #[.bool u.s, .slice b0 u.t.n e0, .string u.t.v] 28
  simp only [World.size_alloc] at M1
  go_enter Try.func8, Try.ntmps8
  go_wp2_with fail
  generalize (w.alloc (.cells #[.bool u.s, .slice a0 u.t.n c0, .string u.t.v] 28)).alloc (.cells #[.bool u.s, .slice b0 u.t.n e0, .string u.t.v] 28) = w2 at *
  refine (s1.out _ (R.below d0) (Q.below d0)).mono ?_
  rintro e w3 ⟨rfl, hb3⟩
  have d3 := d0.trans (hb3.mono d0.size)
  have u1 := (M0.below hb3).2.1 2 _ rfl
  have v1 := (M1.below hb3).2.1 2 _ rfl
  clear M0 M1 hb3 d0 s1
  go_wp2_with fail
  go_ret
  exact ⟨rfl, d3⟩
/-- A command, the block of its path, and the room in it. -/
structure EC15 where
  s : Bool
  t : Lf
  x : Nat
  k : Nat
def EC15.c (e : EC15) : Cm15 := ⟨e.s, e.t⟩
def ecf (e : EC15) : List Value := [.bool e.s, .slice (some ⟨e.x, 0, none⟩) e.t.n e.k, .string e.t.v]
def ecs : List EC15 → List Value
  | [] => []
  | e :: L => ecf e ++ ecs L
theorem ecs_app : ∀ (L : List EC15) (e : EC15), ecs (L ++ [e]) = ecs L ++ ecf e
  | [], e => by simp [ecs]
  | x :: L, e => by simp [ecs, ecs_app L e]
theorem ecs_at : ∀ {L : List EC15} {i : Nat} (h : i < L.length), (ecs L)[i * 3]? = some (.bool (L[i]).s) ∧ (ecs L)[i * 3 + 1]? = some (.slice (some ⟨(L[i]).x, 0, none⟩) (L[i]).t.n (L[i]).k) ∧ (ecs L)[i * 3 + 2]? = some (.string (L[i]).t.v)
  | [], i, h => absurd h (Nat.not_lt_zero _)
  | x :: L, 0, _ => ⟨rfl, rfl, rfl⟩
  | x :: L, i + 1, h => by
    have hi : i < L.length := by simpa using h
    obtain ⟨h1, h2, h3⟩ := ecs_at hi
    have e : ecs (x :: L) = .bool x.s :: .slice (some ⟨x.x, 0, none⟩) x.t.n x.k :: .string x.t.v :: ecs L := rfl
    rw [e]
    exact ⟨by rw [show (i + 1) * 3 = i * 3 + 1 + 1 + 1 by omega]; simpa using h1, by rw [show (i + 1) * 3 + 1 = i * 3 + 1 + 1 + 1 + 1 by omega]; simpa using h2, by rw [show (i + 1) * 3 + 2 = i * 3 + 2 + 1 + 1 + 1 by omega]; simpa using h3⟩
theorem ecf_one (e : EC15) : ∀ u ∈ ecf e, u.oneCell' = true := by
  intro u hu
  simp only [ecf, List.mem_cons, List.not_mem_nil, or_false] at hu
  rcases hu with rfl | rfl | rfl <;> rfl
end Go.Proofs.Ytddebnokdcajbaa
