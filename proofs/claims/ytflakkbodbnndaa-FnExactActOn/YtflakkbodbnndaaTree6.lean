/- How the specification's trees lie in memory. -/
import Derived.Test.YtflakkbodbnndaaMemK
import Derived.Test.YtflakkbodbnndaaPlain6b
import Derived.Test.YtflakkbodbnndaaAll2
namespace Go.Proofs.Ytflakkbodbnndaa
open Go.RowKit

/-- The kids of a tree lie at k; all their blocks are of S. -/
def Kids (S : Nat → Prop) (w : World) : Re → Option Addr × Nat × Nat → Prop
  | .thn a b, k => ∃ g c ka kb, k = (some ⟨g, 0, none⟩, 2, c) ∧ S g ∧ RowK (some ⟨g, 0, none⟩) [(a.kind, a.num, ka), (b.kind, b.num, kb)] w ∧ Kids S w a ka ∧ Kids S w b kb
  | .alt a b, k => ∃ g c ka kb, k = (some ⟨g, 0, none⟩, 2, c) ∧ S g ∧ RowK (some ⟨g, 0, none⟩) [(a.kind, a.num, ka), (b.kind, b.num, kb)] w ∧ Kids S w a ka ∧ Kids S w b kb
  | .str a, k => ∃ g c ka, k = (some ⟨g, 0, none⟩, 1, c) ∧ S g ∧ RowK (some ⟨g, 0, none⟩) [(a.kind, a.num, ka)] w ∧ Kids S w a ka
  | .non, k => k = (none, 0, 0)
  | .emp, k => k = (none, 0, 0)
  | .one _, k => k = (none, 0, 0)
  | .any, k => k = (none, 0, 0)
theorem RowK.lt {g : Nat} {e : Kd} {L : List Kd} {w : World} (h : RowK (some ⟨g, 0, none⟩) (e :: L) w) : g < w.heap.size := by
  obtain ⟨b, off, ha, hb, _⟩ := h 0 (by simp)
  simp only [Option.some.injEq, Addr.mk.injEq, and_true] at ha
  obtain ⟨rfl, rfl⟩ := ha
  exact hb
/-- Nothing of S that was there has turned. -/
def Moves (S : Nat → Prop) (w w' : World) : Prop := w.heap.size ≤ w'.heap.size ∧ ∀ g o, S g → g < w.heap.size → w'.cell? ⟨g, o, none⟩ = w.cell? ⟨g, o, none⟩
theorem RowK.move {g : Nat} {L : List Kd} {S : Nat → Prop} {w w' : World} (h : RowK (some ⟨g, 0, none⟩) L w) (hs : S g) (m : Moves S w w') : RowK (some ⟨g, 0, none⟩) L w' := by
  intro i hi
  obtain ⟨b, off, ha, hb, h0, h1, h2⟩ := h i hi
  simp only [Option.some.injEq, Addr.mk.injEq, and_true] at ha
  obtain ⟨rfl, rfl⟩ := ha
  exact ⟨g, 0, rfl, Nat.lt_of_lt_of_le hb m.1, (m.2 _ _ hs hb).trans h0, (m.2 _ _ hs hb).trans h1, (m.2 _ _ hs hb).trans h2⟩
theorem Kids.move {S : Nat → Prop} {w w' : World} (m : Moves S w w') (t : Re) : ∀ k, Kids S w t k → Kids S w' t k := by
  induction t with
  | thn a b ha hb => rintro k ⟨g, c, ka, kb, rfl, hs, hr, h1, h2⟩; exact ⟨g, c, ka, kb, rfl, hs, hr.move hs m, ha _ h1, hb _ h2⟩
  | alt a b ha hb => rintro k ⟨g, c, ka, kb, rfl, hs, hr, h1, h2⟩; exact ⟨g, c, ka, kb, rfl, hs, hr.move hs m, ha _ h1, hb _ h2⟩
  | str a ha => rintro k ⟨g, c, ka, rfl, hs, hr, h1⟩; exact ⟨g, c, ka, rfl, hs, hr.move hs m, ha _ h1⟩
  | _ => exact fun k h => h
theorem Kids.mono {S S' : Nat → Prop} {w : World} (hs : ∀ g, g < w.heap.size → S g → S' g) (t : Re) : ∀ k, Kids S w t k → Kids S' w t k := by
  induction t with
  | thn a b ha hb => rintro k ⟨g, c, ka, kb, rfl, h, hr, h1, h2⟩; exact ⟨g, c, ka, kb, rfl, hs g hr.lt h, hr, ha _ h1, hb _ h2⟩
  | alt a b ha hb => rintro k ⟨g, c, ka, kb, rfl, h, hr, h1, h2⟩; exact ⟨g, c, ka, kb, rfl, hs g hr.lt h, hr, ha _ h1, hb _ h2⟩
  | str a ha => rintro k ⟨g, c, ka, rfl, h, hr, h1⟩; exact ⟨g, c, ka, rfl, hs g hr.lt h, hr, ha _ h1⟩
  | _ => exact fun k h => h
theorem moves_below {S : Nat → Prop} {w w' : World} (k : Below w.heap.size w w') : Moves S w w' := ⟨k.size, fun _ _ _ hb => (bcell k).1 _ _ hb⟩
theorem Kids.below {S : Nat → Prop} {w w' : World} {t : Re} {k : Option Addr × Nat × Nat} (h : Kids S w t k) (b : Below w.heap.size w w') : Kids S w' t k := Kids.move (moves_below b) t k h
theorem Kids.base {S : Nat → Prop} {base : Nat} {w w' : World} {t : Re} {k : Option Addr × Nat × Nat} (h : Kids S w t k) (hs : ∀ g, S g → g < base) (b : Below base w w') : Kids S w' t k :=
  Kids.move ⟨b.size, fun g o hg _ => b.cell (p := ⟨g, o, none⟩) (hs g hg)⟩ t k h
/-- All blocks of a tree are there. -/
theorem Kids.all {S : Nat → Prop} {w : World} {t : Re} {k : Option Addr × Nat × Nat} (h : Kids S w t k) : Kids (fun g => g < w.heap.size) w t k := Kids.mono (fun _ hg _ => hg) t k h
theorem Kids.shape {S : Nat → Prop} {w : World} {t : Re} {k : Option Addr × Nat × Nat} (h : Kids S w t k) : k.2.1 ≤ 2 := by
  cases t with
  | thn a b => obtain ⟨g, c, ka, kb, rfl, _⟩ := h; exact Nat.le_refl _
  | alt a b => obtain ⟨g, c, ka, kb, rfl, _⟩ := h; exact Nat.le_refl _
  | str a => obtain ⟨g, c, ka, rfl, _⟩ := h; exact Nat.le_succ _
  | _ => obtain rfl : k = (none, 0, 0) := h; exact Nat.zero_le _

/-- Trees, each with its kids. -/
def Trees (S : Nat → Prop) (w : World) : List Re → List Kd → Prop
  | [], [] => True
  | t :: ts, e :: KL => e.1 = t.kind ∧ e.2.1 = t.num ∧ Kids S w t e.2.2 ∧ Trees S w ts KL
  | _, _ => False
theorem Trees.len {S : Nat → Prop} {w : World} : ∀ {ts : List Re} {KL : List Kd}, Trees S w ts KL → KL.length = ts.length
  | [], [], _ => rfl
  | _ :: _, _ :: _, h => by simp [Trees.len h.2.2.2]
  | [], _ :: _, h => h.elim
  | _ :: _, [], h => h.elim
theorem Trees.move {S : Nat → Prop} {w w' : World} (m : Moves S w w') : ∀ {ts : List Re} {KL : List Kd}, Trees S w ts KL → Trees S w' ts KL
  | [], [], _ => trivial
  | t :: _, _ :: _, h => ⟨h.1, h.2.1, Kids.move m t _ h.2.2.1, Trees.move m h.2.2.2⟩
  | [], _ :: _, h => h.elim
  | _ :: _, [], h => h.elim
theorem Trees.mono {S S' : Nat → Prop} {w : World} (hs : ∀ g, g < w.heap.size → S g → S' g) : ∀ {ts : List Re} {KL : List Kd}, Trees S w ts KL → Trees S' w ts KL
  | [], [], _ => trivial
  | t :: _, _ :: _, h => ⟨h.1, h.2.1, Kids.mono hs t _ h.2.2.1, Trees.mono hs h.2.2.2⟩
  | [], _ :: _, h => h.elim
  | _ :: _, [], h => h.elim
theorem Trees.snoc {S : Nat → Prop} {w : World} {t : Re} {k : Option Addr × Nat × Nat} (hk : Kids S w t k) : ∀ {ts : List Re} {KL : List Kd}, Trees S w ts KL → Trees S w (ts ++ [t]) (KL ++ [(t.kind, t.num, k)])
  | [], [], _ => ⟨rfl, rfl, hk, trivial⟩
  | _ :: _, _ :: _, h => ⟨h.1, h.2.1, h.2.2.1, Trees.snoc hk h.2.2.2⟩
  | [], _ :: _, h => h.elim
  | _ :: _, [], h => h.elim

/-- From w to w' nothing that was there has turned but v's own block; and v' lies there, or in a new block. -/
def GrowK (w w' : World) (v v' : Value) : Prop := w.grownBy w' v.ownBlock ∧ ∀ g, v'.ownBlock = some g → v.ownBlock = some g ∨ w.heap.size ≤ g
theorem ownK_blk {w : World} {base : Nat} {v : Value} {L : List Kd} (h : OwnK base v L w) {g : Nat} (e : v.ownBlock = some g) : base ≤ g ∧ g < w.heap.size := World.ownsRow.lt h g e
theorem GrowK.below {w w' : World} {v v' : Value} {base : Nat} {L : List Kd} (h : GrowK w w' v v') (ho : OwnK base v L w) (hb : base ≤ w.heap.size) : Below base w w' :=
  ⟨h.1.os, h.1.tape, h.1.output, h.1.size, fun k hk => h.1.block k (by omega) (fun e => by have := (ownK_blk ho e.symm).1; omega)⟩
/-- Trees that are not the list's stay. -/
theorem GrowK.moves {w w' : World} {v v' : Value} {S : Nat → Prop} (h : GrowK w w' v v') (hs : ∀ g, S g → some g ≠ v.ownBlock) : Moves S w w' :=
  ⟨h.1.size, fun g _ hg hb => World.cell?_of_block (w := w) (h.1.block g hb (hs g hg))⟩
set_option maxRecDepth 100000 in
theorem wpList_app1K {ops : Array Oper} {rest : List Oper} {o : Oper} {a : Act} {w : World} {Q : Exit → Act → World → Prop} (hgd : o.guard = none) (s x : Operand)
    (ho : o.op = .call { callee := .builtin .append, args := #[s, x], argTypes := #[138, 138] })
    (base : Nat) (v : Value) (L : List Kd) (hs : a.eval s = v) (hown : OwnK base v L w)
    (b : Nat) (p : Kd) (c : Nat) (hx : a.eval x = .slice (some ⟨b, 0, none⟩) 1 c) (hM : RowK (some ⟨b, 0, none⟩) [p] w) (hlen : L.length ≤ 8589934592) (hbase : base ≤ w.heap.size)
    (h : ∀ v' w', OwnK base v' (L ++ [p]) w' → GrowK w w' v v' → wpList Try.prog ops Q rest (a.put o.dst v') w') : wpList Try.prog ops Q (o :: rest) a w := by
  obtain ⟨i0, hi, hz0, hz1, hz2⟩ := info_partsK infol6T
  refine wpList_append_lies w hgd s x 138 ho base 140 i0 (.agg #[.int .i64 0, .int .i64 0, .slice none 0 0]) 3 40 Try.underlying138 hi hz0 hz1 hz2 rfl (by decide) v L.length (kcells L) hs hown ⟨b, 0, none⟩ 1 c (kcells [p]) hx rfl hM.cells (kc_oneCell _) (by decide) (by unfold maxLen; omega) (by omega) hbase w.heap.size rfl ?_
  intro g cap w' hown' hgrow hg _
  refine h _ w' ?_ ⟨hgrow, fun g' e => ?_⟩
  · unfold OwnK
    rw [kc_app, List.length_append]
    exact hown'
  · simp only [Value.ownBlock, Option.some.injEq] at e
    subst e
    rcases hg with e1 | e1
    · exact .inl e1
    · exact .inr (by omega)

/-- n trees, one behind the other. -/
def rdn : Nat → Nat → List Cl → Option (List Re × List Cl)
  | 0, _, L => some ([], L)
  | m + 1, f, L => match rd f L with
    | none => none
    | some (t, L1) => (rdn m f L1).map fun x => (t :: x.1, x.2)
/-- How many parts a cell of a kind is of. -/
def arN (k : Int) : Nat := if k = 5 ∨ k = 6 then 2 else if k = 7 then 1 else 0
def mkT (k n : Int) : List Re → Re
  | [] => if k = 1 then .non else if k = 2 then .emp else if k = 3 then .one n else .any
  | [a] => .str a
  | a :: b :: _ => if k = 5 then .thn a b else .alt a b
theorem rd_rdn {k n : Int} (f : Nat) (L : List Cl) (hg : gcB k n = true) : rd (f + 1) ((k, n) :: L) = (rdn (arN k) f L).map fun x => (mkT k n x.1, x.2) := by
  obtain ⟨k1, k7⟩ := gcB_bd hg
  by_cases c3 : k = 3
  · subst c3
    rw [rd_3 f L hg]
    rfl
  · have n0 := gcB_zero hg c3
    subst n0
    have e2 : ∀ k, k = 5 ∨ k = 6 → (rdn (arN k) f L).map (fun x => (mkT k 0 x.1, x.2)) = (rd2 f L).map fun x => (if k = 5 then .thn x.1 x.2.1 else .alt x.1 x.2.1, x.2.2) := by
      intro k hk
      have : arN k = 2 := by simp [arN, hk]
      rw [this]
      unfold rd2
      simp only [rdn]
      cases h1 : rd f L with
      | none => rfl
      | some x =>
        obtain ⟨a, L1⟩ := x
        simp only []
        cases h2 : rd f L1 with
        | none => rfl
        | some y => obtain ⟨b, L2⟩ := y; simp [mkT]
    rcases (show k = 1 ∨ k = 2 ∨ k = 4 ∨ k = 5 ∨ k = 6 ∨ k = 7 by omega) with rfl | rfl | rfl | rfl | rfl | rfl
    · rw [rd_1]; rfl
    · rw [rd_2]; rfl
    · rw [rd_4]; rfl
    · rw [rd_5, e2 5 (.inl rfl)]; simp
    · rw [rd_6, e2 6 (.inr rfl)]; simp
    · rw [rd_7]
      simp only [arN]
      cases h1 : rd f L with
      | none => simp [rdn, h1]
      | some x => obtain ⟨a, L1⟩ := x; simp [rdn, h1, mkT]
theorem mkT_kind {k n : Int} {ts : List Re} (hg : gcB k n = true) (hl : ts.length = arN k) : (mkT k n ts).kind = k ∧ (mkT k n ts).num = n := by
  obtain ⟨k1, k7⟩ := gcB_bd hg
  by_cases c3 : k = 3
  · subst c3
    obtain rfl : ts = [] := List.eq_nil_of_length_eq_zero hl
    exact ⟨rfl, rfl⟩
  · have n0 := gcB_zero hg c3
    subst n0
    rcases (show k = 1 ∨ k = 2 ∨ k = 4 ∨ k = 5 ∨ k = 6 ∨ k = 7 by omega) with rfl | rfl | rfl | rfl | rfl | rfl
    · obtain rfl : ts = [] := List.eq_nil_of_length_eq_zero hl
      exact ⟨rfl, rfl⟩
    · obtain rfl : ts = [] := List.eq_nil_of_length_eq_zero hl
      exact ⟨rfl, rfl⟩
    · obtain rfl : ts = [] := List.eq_nil_of_length_eq_zero hl
      exact ⟨rfl, rfl⟩
    · match ts, hl with
      | [a, b], _ => exact ⟨rfl, rfl⟩
    · match ts, hl with
      | [a, b], _ => exact ⟨rfl, rfl⟩
    · match ts, hl with
      | [a], _ => exact ⟨rfl, rfl⟩
theorem mkT_leaf (k n : Int) : mkT k n [] = .non ∨ mkT k n [] = .emp ∨ mkT k n [] = .one n ∨ mkT k n [] = .any := by
  show (if k = 1 then Re.non else if k = 2 then .emp else if k = 3 then .one n else .any) = .non ∨ (if k = 1 then Re.non else if k = 2 then .emp else if k = 3 then .one n else .any) = .emp ∨ (if k = 1 then Re.non else if k = 2 then .emp else if k = 3 then .one n else .any) = .one n ∨ (if k = 1 then Re.non else if k = 2 then .emp else if k = 3 then .one n else .any) = .any
  split
  · exact .inl rfl
  · split
    · exact .inr (.inl rfl)
    · split
      · exact .inr (.inr (.inl rfl))
      · exact .inr (.inr (.inr rfl))
theorem kids_leaf (S : Nat → Prop) (w : World) (k n : Int) : Kids S w (mkT k n []) (none, 0, 0) := by
  rcases mkT_leaf k n with h | h | h | h <;> (rw [h]; rfl)
/-- Trees in a list of one's own are the kids of the tree that is made of them. -/
theorem kids_mk (k n : Int) {ts : List Re} {KL : List Kd} {S S' : Nat → Prop} {base : Nat} {v : Value} {w : World} (hl : ts.length = arN k) (hT : Trees S w ts KL) (ho : OwnK base v KL w) (hn : ts = [] → v = .slice none 0 0)
    (hs : ∀ g, g < w.heap.size → S g → S' g) (hb : ∀ g, v.ownBlock = some g → S' g) : ∃ kk : Option Addr × Nat × Nat, v = .slice kk.1 kk.2.1 kk.2.2 ∧ Kids S' w (mkT k n ts) kk := by
  have hlen := hT.len
  by_cases h0 : ts = []
  · obtain rfl := hn h0
    subst h0
    exact ⟨(none, 0, 0), rfl, kids_leaf _ _ _ _⟩
  · have hKL : KL ≠ [] := by intro e; rw [e] at hlen; exact h0 (List.eq_nil_of_length_eq_zero hlen.symm)
    obtain ⟨a, cap, rfl, hR, hcase⟩ := ownK_row ho
    rcases hcase with ⟨_, _, e⟩ | ⟨g, rfl, _, _, _⟩
    · exact absurd e hKL
    have hg : S' g := hb g rfl
    refine ⟨(some ⟨g, 0, none⟩, KL.length, cap), rfl, ?_⟩
    have hT := hT.mono hs
    match ts, KL, hT with
    | [], _, _ => exact absurd rfl h0
    | [t], [e], hT =>
      obtain ⟨e1, e2, e3, _⟩ := hT
      obtain ⟨x, y, z⟩ := e
      simp only at e1 e2 e3
      subst e1 e2
      exact ⟨g, cap, z, rfl, hg, hR, e3⟩
    | [t, u], [e, e'], hT =>
      obtain ⟨e1, e2, e3, f1, f2, f3, _⟩ := hT
      obtain ⟨x, y, z⟩ := e
      obtain ⟨x', y', z'⟩ := e'
      simp only at e1 e2 e3 f1 f2 f3
      subst e1 e2 f1 f2
      have K : ∀ r, r = Re.thn t u ∨ r = Re.alt t u → Kids S' w r (some ⟨g, 0, none⟩, 2, cap) := by
        rintro r (rfl | rfl) <;> exact ⟨g, cap, z, z', rfl, hg, hR, e3, f3⟩
      refine K _ ?_
      simp only [mkT]
      split
      · exact .inl rfl
      · exact .inr rfl
    | _ :: _ :: _ :: _, _, _ => exfalso; simp only [List.length_cons, arN] at hl; split at hl <;> (try split at hl) <;> omega
    | [_], [], h => exact h.elim
    | [_], _ :: _ :: _, h => exact h.2.2.2.elim
    | [_, _], [], h => exact h.elim
    | [_, _], [_], h => exact h.2.2.2.elim
    | [_, _], _ :: _ :: _ :: _, h => exact h.2.2.2.2.2.2.elim
end Go.Proofs.Ytflakkbodbnndaa
