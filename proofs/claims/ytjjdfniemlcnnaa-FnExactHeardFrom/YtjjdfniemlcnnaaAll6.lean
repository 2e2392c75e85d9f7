/- Lists of routes of one's own that grow, each route with lists of its own. -/
import Derived.Test.YtjjdfniemlcnnaaAll3
import Derived.Test.YtjjdfniemlcnnaaAll4
import Derived.Test.YtjjdfniemlcnnaaMark8
import Derived.Test.YtjjdfniemlcnnaaAll5
/- Lists of offers of one's own that grow, each offer with lists of its own. -/
namespace Go.Proofs.Ytjjdfniemlcnnaa
open Go.RowKit

/-- The blocks of an offer's lists. -/
def bxO (e : Oe) : Nat := (e.a0.map (·.block)).getD 0
def byO (e : Oe) : Nat := (e.a1.map (·.block)).getD 0
/-- An offer whose lists are its own. -/
def MyO (base : Nat) (gb : Option Nat) (w : World) (e : Oe) : Prop := e.a0 = some ⟨bxO e, 0, none⟩ ∧ e.a1 = some ⟨byO e, 0, none⟩ ∧ base ≤ bxO e ∧ bxO e < byO e ∧ gb ≠ some (bxO e) ∧ gb ≠ some (byO e) ∧
  OutInt (bxO e) e.t.n0 e.t.n0 e.t.f w ∧ OutInt (byO e) e.t.n1 e.t.n1 e.t.g w
/-- A list of offers of one's own. -/
def LsO (base : Nat) (v : Value) (M : List Oe) (w : World) : Prop := OwnU base v M w ∧ (∀ e, e ∈ M → MyO base v.ownBlock w e) ∧ M.Pairwise (fun e e' => byO e < bxO e')
theorem LsO.nil (base : Nat) (w : World) : LsO base (.slice none 0 0) [] w := ⟨ownU_nil _ _, fun _ h => absurd h (by simp), List.Pairwise.nil⟩
theorem MyO.below {base : Nat} {gb : Option Nat} {w w' : World} {e : Oe} (h : MyO base gb w e) (b : Below w.heap.size w w') : MyO base gb w' e := by
  obtain ⟨h1, h2, h3, h4, h5, h6, h7, h8⟩ := h
  exact ⟨h1, h2, h3, h4, h5, h6, h7.below b, h8.below b⟩
theorem LsO.below {base : Nat} {v : Value} {M : List Oe} {w w' : World} (h : LsO base v M w) (b : Below w.heap.size w w') : LsO base v M w' :=
  ⟨ownU_below h.1 b, fun e he => (h.2.1 e he).below b, h.2.2⟩
theorem LsO.lt {base : Nat} {v : Value} {M : List Oe} {w : World} (h : LsO base v M w) {e : Oe} (he : e ∈ M) : byO e < w.heap.size := (h.2.1 e he).2.2.2.2.2.2.2.1
/-- One more. -/
theorem LsO.app {base z : Nat} {v v' : Value} {M : List Oe} {e : Oe} {w w' : World} (h : LsO base v M w) (hz : ∀ e', e' ∈ M → byO e' < z) (hg : ∀ g, v.ownBlock = some g → g < z)
    (he : e.a0 = some ⟨bxO e, 0, none⟩ ∧ e.a1 = some ⟨byO e, 0, none⟩ ∧ base ≤ bxO e ∧ z ≤ bxO e ∧ bxO e < byO e ∧ OutInt (bxO e) e.t.n0 e.t.n0 e.t.f w ∧ OutInt (byO e) e.t.n1 e.t.n1 e.t.g w)
    (ho : OwnU base v' (M ++ [e]) w') (hgr : w.grownBy w' v.ownBlock) (hb : v'.ownBlock = v.ownBlock ∨ v'.ownBlock = some w.heap.size) : LsO base v' (M ++ [e]) w' := by
  obtain ⟨g1, g2, g3, g4, g5, g6, g7⟩ := he
  have hx : v.ownBlock ≠ some (bxO e) := fun q => by have := hg _ q; omega
  have hy : v.ownBlock ≠ some (byO e) := fun q => by have := hg _ q; omega
  have all : ∀ e', e' ∈ M ++ [e] → MyO base v'.ownBlock w' e' := by
    intro e' hm
    have key : e'.a0 = some ⟨bxO e', 0, none⟩ ∧ e'.a1 = some ⟨byO e', 0, none⟩ ∧ base ≤ bxO e' ∧ bxO e' < byO e' ∧ v.ownBlock ≠ some (bxO e') ∧ v.ownBlock ≠ some (byO e') ∧ OutInt (bxO e') e'.t.n0 e'.t.n0 e'.t.f w ∧ OutInt (byO e') e'.t.n1 e'.t.n1 e'.t.g w := by
      rcases List.mem_append.1 hm with hm | hm
      · exact h.2.1 e' hm
      · obtain rfl : e' = e := by simpa using hm
        exact ⟨g1, g2, g3, g5, hx, hy, g6, g7⟩
    obtain ⟨k1, k2, k3, k4, k5, k6, k7, k8⟩ := key
    refine ⟨k1, k2, k3, k4, ?_, ?_, k7.grow8 hgr k5, k8.grow8 hgr k6⟩
    · rcases hb with hb | hb
      · rw [hb]; exact k5
      · rw [hb]; have := k7.1; simp; omega
    · rcases hb with hb | hb
      · rw [hb]; exact k6
      · rw [hb]; have := k8.1; simp; omega
  refine ⟨ho, all, ?_⟩
  rw [List.pairwise_append]
  refine ⟨h.2.2, List.pairwise_singleton _ _, fun e1 h1 e2 h2 => ?_⟩
  obtain rfl : e2 = e := by simpa using h2
  have := hz e1 h1
  omega
theorem LsO.ofIn {base : Nat} {v : Value} {M : List Oe} {w : World} (h : LsO base v M w) : ∀ e, e ∈ M → OfIn e.a0 e.a1 e.t w := by
  intro e he
  obtain ⟨h1, h2, _, _, _, _, h7, h8⟩ := h.2.1 e he
  rw [h1, h2]
  exact ⟨h7.row, h8.row⟩
/-- What is said of a list of one's own: it is nothing, or it lies in a block, and may be written. -/
theorem LsO.shape {base : Nat} {v : Value} {M : List Oe} {w : World} (h : LsO base v M w) : ∃ a cap, v = .slice a M.length cap ∧ RowO a M.length (TL (M.map (·.t))) w ∧
    (M = [] ∨ ∃ g, a = some ⟨g, 0, none⟩ ∧ base ≤ g ∧ RowOA g M.length (fun i => bxO (uAt M i)) (fun i => byO (uAt M i)) (fun i => (uAt M i).c0) (fun i => (uAt M i).c1) (TL (M.map (·.t))) w ∧ SepO g M.length (fun i => bxO (uAt M i)) (fun i => byO (uAt M i)) ∧
      ∀ k, BlkO g M.length (fun i => bxO (uAt M i)) (fun i => byO (uAt M i)) k → base ≤ k) := by
  obtain ⟨a, cap, rfl, hrow, hc⟩ := ownU_row h.1
  refine ⟨a, cap, rfl, hrow.offers h.ofIn, ?_⟩
  by_cases h0 : M = []
  · exact .inl h0
  · right
    rcases hc with ⟨_, _, rfl⟩ | ⟨g, rfl, hg1, hg2, _⟩
    · exact absurd rfl h0
    · have htl : ∀ i, i < M.length → TL (M.map (·.t)) i = (uAt M i).t := by
        intro i hi
        rw [TL_eq (by simpa using hi), uAt_eq hi]
        simp
      refine ⟨g, rfl, hg1, fun i hi => ?_, fun i hi => ?_, fun k hk => ?_⟩
      · obtain ⟨k1, k2, k3, k4, k5, k6, k7, k8⟩ := h.2.1 _ (uAt_mem hi)
        obtain ⟨⟨c0, c1, c2, c3, c4, c5, c6⟩, hf⟩ := ownU_at h.1 hi
        unfold OneOA
        rw [htl i hi]
        rw [k1] at c2
        rw [k2] at c6
        exact ⟨mutO_of7 hg2 c0 c1 c2 c3 c4 c5 c6 (fun q _ => hf _), k7, k8⟩
      · obtain ⟨k1, k2, k3, k4, k5, k6, k7, k8⟩ := h.2.1 _ (uAt_mem hi)
        simp only [Value.ownBlock, ne_eq, Option.some.injEq] at k5 k6
        dsimp only
        refine ⟨fun e => k5 e.symm, fun e => k6 e.symm, by omega, fun j hj hji => ?_⟩
        obtain ⟨q1, q2, q3, q4, _⟩ := h.2.1 _ (uAt_mem hj)
        have hp := List.pairwise_iff_getElem.1 h.2.2
        rcases Nat.lt_or_gt_of_ne hji with hlt | hlt
        · have := hp j i hj hi hlt
          rw [← uAt_eq hj, ← uAt_eq hi] at this
          exact ⟨by omega, by omega, by omega, by omega⟩
        · have := hp i j hi hj hlt
          rw [← uAt_eq hj, ← uAt_eq hi] at this
          exact ⟨by omega, by omega, by omega, by omega⟩
      · rcases hk with rfl | ⟨i, hi, rfl | rfl⟩
        · exact hg1
        · obtain ⟨k1, k2, k3, k4, _⟩ := h.2.1 _ (uAt_mem hi)
          exact k3
        · obtain ⟨k1, k2, k3, k4, _⟩ := h.2.1 _ (uAt_mem hi)
          show base ≤ byO (uAt M i)
          omega
/-- Offers that came in: their lists lie at addresses, and are short. -/
def SrcO (w : World) (e : Oe) : Prop := (∃ x f, e.a0 = some ⟨x, f, none⟩) ∧ (∃ x f, e.a1 = some ⟨x, f, none⟩) ∧ OfIn e.a0 e.a1 e.t w ∧ e.t.n0 ≤ 1048576 ∧ e.t.n1 ≤ 1048576
theorem SrcO.below {w w' : World} {e : Oe} (h : SrcO w e) (b : Below w.heap.size w w') : SrcO w' e := ⟨h.1, h.2.1, h.2.2.1.below b, h.2.2.2⟩
theorem rowOO_list {c n : Nat} {X Y : Nat → Nat} {hi : Nat} {T : Nat → Oc} {w : World} (h : RowOO c n X Y hi T w) (hl : LowO n T) : ∃ L : List Oe, L.length = n ∧ L.map (·.t) = lsO n T ∧ RowU (some ⟨c, 0, none⟩) L w ∧ ∀ e, e ∈ L → SrcO w e := by
  let E : Nat → Oe := fun i => ⟨T i, some ⟨X i, 0, none⟩, (T i).n0, some ⟨Y i, 0, none⟩, (T i).n1⟩
  have hlen : ((List.range n).map E).length = n := by simp
  have hat : ∀ i, i < n → uAt ((List.range n).map E) i = E i := by
    intro i hi
    rw [uAt_eq (by rw [hlen]; exact hi)]
    simp
  refine ⟨(List.range n).map E, hlen, by simp [lsO, E], fun i hi => ?_, fun e he => ?_⟩
  · rw [hlen] at hi
    rw [hat i hi]
    obtain ⟨h1, h2, h3, hj, h4, c0, c1, c2, c3, c4, c5, c6, o1, o2⟩ := h.2 i hi
    exact ⟨c, 0, rfl, h4, by rw [Nat.zero_add]; exact c0, by rw [Nat.zero_add]; exact c1, by rw [Nat.zero_add]; exact c2, by rw [Nat.zero_add]; exact c3, by rw [Nat.zero_add]; exact c4, by rw [Nat.zero_add]; exact c5, by rw [Nat.zero_add]; exact c6⟩
  · simp only [List.mem_map, List.mem_range] at he
    obtain ⟨i, hi, rfl⟩ := he
    obtain ⟨h1, h2, h3, hj, h4, c0, c1, c2, c3, c4, c5, c6, o1, o2⟩ := h.2 i hi
    exact ⟨⟨_, _, rfl⟩, ⟨_, _, rfl⟩, ⟨o1.row, o2.row⟩, hl i hi⟩
end Go.Proofs.Ytjjdfniemlcnnaa

namespace Go.Proofs.Ytjjdfniemlcnnaa
open Go.RowKit

/-- The route at a place of a list. -/
def TG (L : List Ro) (i : Nat) : Ro := L.getD i ro0
theorem TG_eq {L : List Ro} {i : Nat} (h : i < L.length) : TG L i = L[i] := by
  unfold TG
  rw [List.getD_eq_getElem?_getD, List.getElem?_eq_getElem h]
  rfl
theorem cellsO_of8 {w : World} {b off : Nat} {t : Ro} {a0 : Option Addr} {c0 : Nat} {a1 : Option Addr} {c1 : Nat} (hb : b < w.heap.size) (h0 : w.cell? ⟨b, off, none⟩ = some (.int .i64 t.pa)) (h1 : w.cell? ⟨b, off + 1, none⟩ = some (.int .i64 t.pl)) (h2 : w.cell? ⟨b, off + 2, none⟩ = some (.int .i64 t.o)) (h3 : w.cell? ⟨b, off + 3, none⟩ = some (.slice a0 t.n0 c0)) (h4 : w.cell? ⟨b, off + 4, none⟩ = some (.int .i64 t.nx)) (h5 : w.cell? ⟨b, off + 5, none⟩ = some (.int .i64 t.md)) (h6 : w.cell? ⟨b, off + 6, none⟩ = some (.int .i64 t.pf)) (h7 : w.cell? ⟨b, off + 7, none⟩ = some (.slice a1 t.n1 c1)) : CellsO w b off (rvG t a0 c0 a1 c1) := by
  refine ⟨hb, fun i v hv => ?_⟩
  unfold rvG at hv
  match i, hv with
  | 0, hv => simp at hv; rw [← hv]; simpa using h0
  | 1, hv => simp at hv; rw [← hv]; exact h1
  | 2, hv => simp at hv; rw [← hv]; exact h2
  | 3, hv => simp at hv; rw [← hv]; exact h3
  | 4, hv => simp at hv; rw [← hv]; exact h4
  | 5, hv => simp at hv; rw [← hv]; exact h5
  | 6, hv => simp at hv; rw [← hv]; exact h6
  | 7, hv => simp at hv; rw [← hv]; exact h7
  | i + 8, hv => simp at hv
/-- The blocks of an offer's lists. -/
def bxG (e : Rge) : Nat := (e.a0.map (·.block)).getD 0
def byG (e : Rge) : Nat := (e.a1.map (·.block)).getD 0
/-- An offer whose lists are its own. -/
def MyG (base : Nat) (gb : Option Nat) (w : World) (e : Rge) : Prop := e.a0 = some ⟨bxG e, 0, none⟩ ∧ e.a1 = some ⟨byG e, 0, none⟩ ∧ base ≤ bxG e ∧ bxG e < byG e ∧ gb ≠ some (bxG e) ∧ gb ≠ some (byG e) ∧
  OutInt (bxG e) e.t.n0 e.t.n0 e.t.f w ∧ OutInt (byG e) e.t.n1 e.t.n1 e.t.g w
/-- A list of offers of one's own. -/
def LsG (base : Nat) (v : Value) (M : List Rge) (w : World) : Prop := OwnH base v M w ∧ (∀ e, e ∈ M → MyG base v.ownBlock w e) ∧ M.Pairwise (fun e e' => byG e < bxG e')
theorem LsG.nil (base : Nat) (w : World) : LsG base (.slice none 0 0) [] w := ⟨ownH_nil _ _, fun _ h => absurd h (by simp), List.Pairwise.nil⟩
theorem MyG.below {base : Nat} {gb : Option Nat} {w w' : World} {e : Rge} (h : MyG base gb w e) (b : Below w.heap.size w w') : MyG base gb w' e := by
  obtain ⟨h1, h2, h3, h4, h5, h6, h7, h8⟩ := h
  exact ⟨h1, h2, h3, h4, h5, h6, h7.below b, h8.below b⟩
theorem LsG.below {base : Nat} {v : Value} {M : List Rge} {w w' : World} (h : LsG base v M w) (b : Below w.heap.size w w') : LsG base v M w' :=
  ⟨ownH_below h.1 b, fun e he => (h.2.1 e he).below b, h.2.2⟩
theorem LsG.lt {base : Nat} {v : Value} {M : List Rge} {w : World} (h : LsG base v M w) {e : Rge} (he : e ∈ M) : byG e < w.heap.size := (h.2.1 e he).2.2.2.2.2.2.2.1
/-- One more. -/
theorem LsG.app {base z : Nat} {v v' : Value} {M : List Rge} {e : Rge} {w w' : World} (h : LsG base v M w) (hz : ∀ e', e' ∈ M → byG e' < z) (hg : ∀ g, v.ownBlock = some g → g < z)
    (he : e.a0 = some ⟨bxG e, 0, none⟩ ∧ e.a1 = some ⟨byG e, 0, none⟩ ∧ base ≤ bxG e ∧ z ≤ bxG e ∧ bxG e < byG e ∧ OutInt (bxG e) e.t.n0 e.t.n0 e.t.f w ∧ OutInt (byG e) e.t.n1 e.t.n1 e.t.g w)
    (ho : OwnH base v' (M ++ [e]) w') (hgr : w.grownBy w' v.ownBlock) (hb : v'.ownBlock = v.ownBlock ∨ v'.ownBlock = some w.heap.size) : LsG base v' (M ++ [e]) w' := by
  obtain ⟨g1, g2, g3, g4, g5, g6, g7⟩ := he
  have hx : v.ownBlock ≠ some (bxG e) := fun q => by have := hg _ q; omega
  have hy : v.ownBlock ≠ some (byG e) := fun q => by have := hg _ q; omega
  have all : ∀ e', e' ∈ M ++ [e] → MyG base v'.ownBlock w' e' := by
    intro e' hm
    have key : e'.a0 = some ⟨bxG e', 0, none⟩ ∧ e'.a1 = some ⟨byG e', 0, none⟩ ∧ base ≤ bxG e' ∧ bxG e' < byG e' ∧ v.ownBlock ≠ some (bxG e') ∧ v.ownBlock ≠ some (byG e') ∧ OutInt (bxG e') e'.t.n0 e'.t.n0 e'.t.f w ∧ OutInt (byG e') e'.t.n1 e'.t.n1 e'.t.g w := by
      rcases List.mem_append.1 hm with hm | hm
      · exact h.2.1 e' hm
      · obtain rfl : e' = e := by simpa using hm
        exact ⟨g1, g2, g3, g5, hx, hy, g6, g7⟩
    obtain ⟨k1, k2, k3, k4, k5, k6, k7, k8⟩ := key
    refine ⟨k1, k2, k3, k4, ?_, ?_, k7.grow8 hgr k5, k8.grow8 hgr k6⟩
    · rcases hb with hb | hb
      · rw [hb]; exact k5
      · rw [hb]; have := k7.1; simp; omega
    · rcases hb with hb | hb
      · rw [hb]; exact k6
      · rw [hb]; have := k8.1; simp; omega
  refine ⟨ho, all, ?_⟩
  rw [List.pairwise_append]
  refine ⟨h.2.2, List.pairwise_singleton _ _, fun e1 h1 e2 h2 => ?_⟩
  obtain rfl : e2 = e := by simpa using h2
  have := hz e1 h1
  omega
/-- What is said of a list of one's own: it is nothing, or it lies in a block, and may be written. -/
theorem LsG.shape {base : Nat} {v : Value} {M : List Rge} {w : World} (h : LsG base v M w) : ∃ a cap, v = .slice a M.length cap ∧ RowG a M.length (TG (M.map (·.t))) w ∧
    (M = [] ∨ ∃ g, a = some ⟨g, 0, none⟩ ∧ base ≤ g ∧ RowGA g M.length (fun i => bxG (hAt M i)) (fun i => byG (hAt M i)) (fun i => (hAt M i).c0) (fun i => (hAt M i).c1) (TG (M.map (·.t))) w ∧ SepO g M.length (fun i => bxG (hAt M i)) (fun i => byG (hAt M i)) ∧
      ∀ k, BlkO g M.length (fun i => bxG (hAt M i)) (fun i => byG (hAt M i)) k → base ≤ k) := by
  obtain ⟨a, cap, rfl, hrow, hc⟩ := ownH_row h.1
  have htl : ∀ i, i < M.length → TG (M.map (·.t)) i = (hAt M i).t := by
    intro i hi
    rw [TG_eq (by simpa using hi), hAt_eq hi]
    simp
  refine ⟨a, cap, rfl, fun i hi => ?_, ?_⟩
  · obtain ⟨b, off, ha, hb, c0, c1, c2, c3, c4, c5, c6, c7⟩ := hrow i hi
    obtain ⟨k1, k2, _, _, _, _, k7, k8⟩ := h.2.1 _ (hAt_mem hi)
    rw [htl i hi]
    exact ⟨b, off, _, _, _, _, ha, cellsO_of8 hb c0 c1 c2 c3 c4 c5 c6 c7, by rw [k1]; exact k7.row, by rw [k2]; exact k8.row⟩
  by_cases h0 : M = []
  · exact .inl h0
  · right
    rcases hc with ⟨_, _, rfl⟩ | ⟨g, rfl, hg1, hg2, _⟩
    · exact absurd rfl h0
    · have htl : ∀ i, i < M.length → TG (M.map (·.t)) i = (hAt M i).t := by
        intro i hi
        rw [TG_eq (by simpa using hi), hAt_eq hi]
        simp
      refine ⟨g, rfl, hg1, fun i hi => ?_, fun i hi => ?_, fun k hk => ?_⟩
      · obtain ⟨k1, k2, k3, k4, k5, k6, k7, k8⟩ := h.2.1 _ (hAt_mem hi)
        obtain ⟨⟨c0, c1, c2, c3, c4, c5, c6, c7⟩, hf⟩ := ownH_at h.1 hi
        unfold OneGA
        rw [htl i hi]
        rw [k1] at c3
        rw [k2] at c7
        have hC := cellsO_of8 hg2 c0 c1 c2 c3 c4 c5 c6 c7
        exact ⟨⟨hg2, hC.2, fun q _ => hf _⟩, k7, k8⟩
      · obtain ⟨k1, k2, k3, k4, k5, k6, k7, k8⟩ := h.2.1 _ (hAt_mem hi)
        simp only [Value.ownBlock, ne_eq, Option.some.injEq] at k5 k6
        dsimp only
        refine ⟨fun e => k5 e.symm, fun e => k6 e.symm, by omega, fun j hj hji => ?_⟩
        obtain ⟨q1, q2, q3, q4, _⟩ := h.2.1 _ (hAt_mem hj)
        have hp := List.pairwise_iff_getElem.1 h.2.2
        rcases Nat.lt_or_gt_of_ne hji with hlt | hlt
        · have := hp j i hj hi hlt
          rw [← hAt_eq hj, ← hAt_eq hi] at this
          exact ⟨by omega, by omega, by omega, by omega⟩
        · have := hp i j hi hj hlt
          rw [← hAt_eq hj, ← hAt_eq hi] at this
          exact ⟨by omega, by omega, by omega, by omega⟩
      · rcases hk with rfl | ⟨i, hi, rfl | rfl⟩
        · exact hg1
        · obtain ⟨k1, k2, k3, k4, _⟩ := h.2.1 _ (hAt_mem hi)
          exact k3
        · obtain ⟨k1, k2, k3, k4, _⟩ := h.2.1 _ (hAt_mem hi)
          show base ≤ byG (hAt M i)
          omega
end Go.Proofs.Ytjjdfniemlcnnaa
