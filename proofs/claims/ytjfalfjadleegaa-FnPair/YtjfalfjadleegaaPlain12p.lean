/- Rows of events, in plain words; lists of numbers as answers. -/
import Derived.Test.YtjfalfjadleegaaPlain12
import Derived.Test.YtjfalfjadleegaaMut4
import Derived.Test.YtjfalfjadleegaaMemN
import Derived.Test.YtjfalfjadleegaaArr6
import Derived.Test.YtjfalfjadleegaaFlatEvent
namespace Go.Proofs.Ytjfalfjadleegaa
open Go.RowKit

/-- A session after the first m events, and all that was told. -/
def plE (h : Int) (f0 f1 : Nat → Int) : Nat → Se × List Int
  | 0 => (⟨0, h, 0, 0, 0⟩, [])
  | m + 1 => ((stp (plE h f0 f1 m).1 (f0 m) (f1 m)).1, (plE h f0 f1 m).2 ++ tl12 (stp (plE h f0 f1 m).1 (f0 m) (f1 m)).2)
theorem plE_succ (h : Int) (f0 f1 : Nat → Int) (m : Nat) : plE h f0 f1 (m + 1) = ((stp (plE h f0 f1 m).1 (f0 m) (f1 m)).1, (plE h f0 f1 m).2 ++ tl12 (stp (plE h f0 f1 m).1 (f0 m) (f1 m)).2) := rfl
theorem tl12_len (t : Int) : (tl12 t).length ≤ 1 := by unfold tl12; split <;> simp
theorem plE_len (h : Int) (f0 f1 : Nat → Int) : ∀ m, (plE h f0 f1 m).2.length ≤ m
  | 0 => Nat.le_refl _
  | m + 1 => by
    have := plE_len h f0 f1 m
    have := tl12_len (stp (plE h f0 f1 m).1 (f0 m) (f1 m)).2
    rw [plE_succ, List.length_append]
    omega
theorem plE_gs {h : Int} (g : 3 ≤ h ∧ h ≤ 90) (f0 f1 : Nat → Int) : ∀ m, GS (plE h f0 f1 m).1
  | 0 => by unfold GS plE; dsimp only; omega
  | m + 1 => stp_gs _ _ (plE_gs g f0 f1 m)
/-- Good arguments of PlayEvents. -/
def PeOk (h : Int) (n : Nat) (f0 f1 : Nat → Int) : Prop := (3 ≤ h ∧ h ≤ 90) ∧ n ≤ 100 ∧ ∀ i, i < n → GE (f0 i) (f1 i)
noncomputable def peB (h : Int) (n : Nat) (f0 f1 : Nat → Int) : Bool := @decide (PeOk h n f0 f1) (Classical.propDecidable _)
noncomputable def peS (h : Int) (n : Nat) (f0 f1 : Nat → Int) : Se := if peB h n f0 f1 then (plE h f0 f1 n).1 else ⟨0, 0, 0, 0, 0⟩
noncomputable def peL (h : Int) (n : Nat) (f0 f1 : Nat → Int) : List Int := if peB h n f0 f1 then (plE h f0 f1 n).2 else []
theorem pe_t {h : Int} {n : Nat} {f0 f1 : Nat → Int} (g : PeOk h n f0 f1) : peB h n f0 f1 = true ∧ peS h n f0 f1 = (plE h f0 f1 n).1 ∧ peL h n f0 f1 = (plE h f0 f1 n).2 := by
  have e : peB h n f0 f1 = true := @decide_eq_true _ (Classical.propDecidable _) g
  exact ⟨e, by rw [peS, if_pos e], by rw [peL, if_pos e]⟩
theorem pe_f {h : Int} {n : Nat} {f0 f1 : Nat → Int} (g : ¬ PeOk h n f0 f1) : peB h n f0 f1 = false ∧ peS h n f0 f1 = ⟨0, 0, 0, 0, 0⟩ ∧ peL h n f0 f1 = [] := by
  have e : peB h n f0 f1 = false := @decide_eq_false _ (Classical.propDecidable _) g
  exact ⟨e, by rw [peS, e]; rfl, by rw [peL, e]; rfl⟩
theorem peL_len (h : Int) (n : Nat) (f0 f1 : Nat → Int) : (peL h n f0 f1).length ≤ 100 := by
  by_cases g : PeOk h n f0 f1
  · rw [(pe_t g).2.2]
    have := plE_len h f0 f1 n
    have := g.2.1
    omega
  · rw [(pe_f g).2.2]; simp
theorem TB.src {base : Nat} {v : Value} {t : Int} {w : World} (h : TB base v t w) : ∃ a c, v = .slice a (tl12 t).length c ∧ SrcN .i64 a (tl12 t) c w := by
  rcases h with ⟨rfl, rfl⟩ | ⟨h0, g, rfl, h2, h3⟩
  · exact ⟨none, 0, rfl, RowN.nil _ _ _, .inl ⟨rfl, rfl, rfl⟩⟩
  · have e : tl12 t = [t] := if_neg h0
    rw [e]
    refine ⟨_, 1, rfl, fun i hi => ?_, .inr ⟨g, 0, rfl⟩⟩
    obtain rfl : i = 0 := by simpa using hi
    obtain ⟨⟨x, c0, hx⟩, _⟩ := h3.2 0 (by omega)
    obtain rfl := hx (by omega)
    exact ⟨g, 0, rfl, h3.1, c0⟩
theorem TB.src_of {base : Nat} {a : Option Addr} {n c : Nat} {t : Int} {w : World} (h : TB base (.slice a n c) t w) : SrcN .i64 a (tl12 t) c w := by
  obtain ⟨a', c', e, hs⟩ := h.src
  simp only [Value.slice.injEq] at e
  obtain ⟨rfl, _, rfl⟩ := e
  exact hs
theorem TB.only {base : Nat} {v : Value} {t : Int} {w w' : World} {c : Nat} (h : TB base v t w) (o : Only c w w') (hc : c < base) : TB base v t w' := by
  rcases h with h | ⟨h0, g, h1, h2, h3⟩
  · exact .inl h
  · exact .inr ⟨h0, g, h1, h2, h3.only o (by omega)⟩
theorem own12_off {e : TypeId} {k : IntKind} {w w' : World} {base x : Nat} {v : Value} {L : List Int} (h : OwnN e k base v L w) (hx : x < base) (o : Only x w w') : OwnN e k base v L w' := by
  refine ⟨h.1, ?_⟩
  rcases h.2 with h | ⟨g, cap, cur, h1, h2, h3, h4⟩
  · exact .inl h
  · exact .inr ⟨g, cap, cur, h1, h2, (o.2.2.2.2 g (Array.getElem?_eq_some_iff.1 h3).1 (by omega)).trans h3, h4⟩
/-- A list of numbers as an answer. -/
def AnsI (base : Nat) (v : Value) (L : List Int) (w : World) : Prop := ∃ a c, v = .slice a L.length c ∧ RowInt a L.length (fun i => L.getD i 0) w ∧ (L = [] ∨ ∃ g, a = some ⟨g, 0, none⟩ ∧ base ≤ g ∧ OutInt g L.length L.length (fun i => L.getD i 0) w)
theorem AnsI.nil (base : Nat) (w : World) : AnsI base (.slice none 0 0) [] w := ⟨none, 0, rfl, fun _ hi => absurd hi (Nat.not_lt_zero _), .inl rfl⟩
theorem AnsI.own {e : TypeId} {base : Nat} {v : Value} {L : List Int} {w : World} (h : OwnN e .i64 base v L w) : AnsI base v L w := by
  rcases h.2 with ⟨rfl, h1⟩ | ⟨g, cap, cur, rfl, hb, hg, hc, hx, hh⟩
  · have e0 : L = [] := List.eq_nil_of_length_eq_zero h1
    subst e0
    exact AnsI.nil _ _
  · have hlt : g < w.heap.size := (Array.getElem?_eq_some_iff.1 hg).1
    have hO : OutInt g L.length L.length (fun i => L.getD i 0) w := by
      refine ⟨hlt, fun i hi => ⟨⟨L.getD i 0, ownN_at h hi, fun _ => rfl⟩, ?_⟩⟩
      exact World.ownsRow.frozenAt (show w.ownsRow base e 1 (.slice (some ⟨g, 0, none⟩) L.length cap) L.length (ncells .i64 L) from h) i
    exact ⟨_, _, rfl, hO.row, .inr ⟨g, rfl, hb, hO⟩⟩
theorem AnsI.base {base base' : Nat} {v : Value} {L : List Int} {w : World} (h : AnsI base v L w) (hb : base' ≤ base) : AnsI base' v L w := by
  obtain ⟨a, c, h1, h2, h3⟩ := h
  refine ⟨a, c, h1, h2, ?_⟩
  rcases h3 with h | ⟨g, e1, e2, e3⟩
  · exact .inl h
  · exact .inr ⟨g, e1, Nat.le_trans hb e2, e3⟩
theorem Mut.zeros5 (w : World) (t : TypeId) : Mut (w.alloc (.cells #[.int .i64 0, .int .i64 0, .int .i64 0, .int .i64 0, .int .i64 0] t)) w.heap.size [.int .i64 0, .int .i64 0, .int .i64 0, .int .i64 0, .int .i64 0] := Mut.new w _ _
/-- The cells of a session. -/
abbrev Se.cs (s : Se) : List Value := [.int .i64 s.st, .int .i64 s.ho, .int .i64 s.le, .int .i64 s.qu, .int .i64 s.up]
theorem Se.one (s : Se) : ∀ v ∈ s.cs, v.oneCell' = true := fun v hv => by
  simp only [List.mem_cons, List.not_mem_nil, or_false] at hv
  rcases hv with rfl | rfl | rfl | rfl | rfl <;> rfl
/-- Where a row of events stands in the loop. -/
def PeR (e : TypeId) (h : Int) (f0 f1 : Nat → Int) (bR bS base : Nat) (w0 : World) (m : Nat) (l : Value) (wr : World) : Prop :=
  (∀ i, i < m → GE (f0 i) (f1 i)) ∧ Mut wr bS (plE h f0 f1 m).1.cs ∧ Mut wr bR [.int .i64 0, .int .i64 0, .int .i64 0, .int .i64 0, .int .i64 0] ∧ OwnN e .i64 base l (plE h f0 f1 m).2 wr ∧ Below w0.heap.size w0 wr ∧ base ≤ wr.heap.size
end Go.Proofs.Ytjfalfjadleegaa
