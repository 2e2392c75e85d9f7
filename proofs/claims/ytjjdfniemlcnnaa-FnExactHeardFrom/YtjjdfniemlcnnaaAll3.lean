/- Chapter 4 in plain words: good attrs, and numbers as bytes, the highest first. -/
import Derived.Test.YtjjdfniemlcnnaaMemU
import Derived.Test.YtjjdfniemlcnnaaAll2
import Derived.Test.YtjjdfniemlcnnaaMemH
import Derived.Test.YtjjdfniemlcnnaaAll1
import Derived.Laws.BytesArg
/- Lists of offers that grow in place: what stays, and where they lie then. -/
namespace Go.Proofs.Ytjjdfniemlcnnaa
open Go.RowKit

theorem run_appU2 (ty : TypeId) (w : World) (base : Nat) (v : Value) (L : List Oe) (hown : OwnU base v L w) (sa : Option Addr) (M : List Oe) (c : Nat) (hM : SrcU sa M c w) (hlen : L.length + M.length ≤ 8589934593) (hbase : base ≤ w.heap.size) :
    ∃ v' w', (Builtin.append_ #[61, 61] ty #[v, .slice sa M.length c]).run Try.prog w = .ok v' w' ∧ OwnU base v' (L ++ M) w' ∧ Below base w w' ∧ w.grownBy w' v.ownBlock ∧ (v'.ownBlock = v.ownBlock ∨ v'.ownBlock = some w.heap.size) := by
  obtain ⟨i0, hi, hz0, hz1, hz2⟩ := info_partsU infoOffer
  rcases hM with ⟨hR, ⟨rfl, rfl, rfl⟩ | ⟨b, off, rfl⟩⟩
  · have hrun := run_append_owned_none (P := Try.prog) (w := w) base 61 ty 49 i0 7 Try.underlying61 hi v L.length (ucells L) hown
    exact ⟨v, w, hrun, by simpa using hown, Below.refl _ _, ⟨rfl, rfl, rfl, Nat.le_refl _, fun _ _ _ => rfl⟩, .inl rfl⟩
  · obtain ⟨v', w', hr, h2, h3, _, h5⟩ := run_append_own_at (P := Try.prog) w base 61 ty 49 i0 (.agg #[.int .i64 0, .int .i64 0, .slice none 0 0, .int .i64 0, .int .i64 0, .int .i64 0, .slice none 0 0]) 7 88 Try.underlying61 hi hz0 hz1 hz2 rfl (by decide) v L.length (ucells L) hown ⟨b, off, none⟩ M.length c (ucells M) (uc_len M) hR.cells (uc_oneCell M) (by unfold maxLen; omega) (by omega) hbase
    refine ⟨v', w', hr, ?_, grown_belowU hown h3 hbase, h3, h5⟩
    unfold OwnU
    rw [uc_app, List.length_append]
    exact h2
theorem step_appU2 {ops : Array Oper} {o : Oper} {a : Act} {w : World} {K : Act → World → Prop} {Q : Exit → Act → World → Prop} {E : Prop} (hgd : o.guard = none) (s x : Operand)
    (ho : o.op = .call { callee := .builtin .append, args := #[s, x], argTypes := #[61, 61] })
    (base : Nat) (v : Value) (L : List Oe) (hs : a.eval s = v) (hown : OwnU base v L w) (sa : Option Addr) (M : List Oe) (n c : Nat) (hx : a.eval x = .slice sa n c) (hn : n = M.length) (hM : SrcU sa M c w)
    (hlen : L.length + M.length ≤ 8589934593) (hbase : base ≤ w.heap.size)
    (h : ∀ v' w', OwnU base v' (L ++ M) w' → Below base w w' → w.grownBy w' v.ownBlock → (v'.ownBlock = v.ownBlock ∨ v'.ownBlock = some w.heap.size) → K (a.put o.dst v') w') :
    if Region.wanted o (yielded ops a.tmps) = true then Oper.wp Try.prog o a w K Q else E := by
  have hw : Region.wanted o (yielded ops a.tmps) = true := by simp [Region.wanted, hgd]
  rw [if_pos hw]
  subst hn
  obtain ⟨v', w', hr, h2, h3, h4, h5⟩ := run_appU2 o.type w base v L hown sa M c hM hlen hbase
  unfold Oper.wp execOp
  simp only [ho, resolve, invoke, builtin, Sem.run_bind, Sem.run_pure, Result.andThen_ok, List.map_toArray, List.map_cons, List.map_nil, hs, hx, hr]
  exact h v' w' h2 h3 h4 h5
theorem wpList_appU2 {ops : Array Oper} {rest : List Oper} {o : Oper} {a : Act} {w : World} {Q : Exit → Act → World → Prop} (hgd : o.guard = none) (s x : Operand)
    (ho : o.op = .call { callee := .builtin .append, args := #[s, x], argTypes := #[61, 61] })
    (base : Nat) (v : Value) (L : List Oe) (hs : a.eval s = v) (hown : OwnU base v L w) (sa : Option Addr) (M : List Oe) (n c : Nat) (hx : a.eval x = .slice sa n c) (hn : n = M.length) (hM : SrcU sa M c w)
    (hlen : L.length + M.length ≤ 8589934593) (hbase : base ≤ w.heap.size)
    (h : ∀ v' w', OwnU base v' (L ++ M) w' → Below base w w' → w.grownBy w' v.ownBlock → (v'.ownBlock = v.ownBlock ∨ v'.ownBlock = some w.heap.size) → wpList Try.prog ops Q rest (a.put o.dst v') w') : wpList Try.prog ops Q (o :: rest) a w := by
  refine wpList_plain hgd fun _ hK => ?_
  subst hn
  obtain ⟨v', w', hr, h2, h3, h4, h5⟩ := run_appU2 o.type w base v L hown sa M c hM hlen hbase
  unfold Oper.wp execOp
  simp only [ho, resolve, invoke, builtin, Sem.run_bind, Sem.run_pure, Result.andThen_ok, List.map_toArray, List.map_cons, List.map_nil, hs, hx, hr]
  exact hK _ _ (h v' w' h2 h3 h4 h5)
theorem ownU_only {w w' : World} {base c : Nat} {v : Value} {L : List Oe} (h : OwnU base v L w) (o : Only c w w') (hn : v.ownBlock ≠ some c) : OwnU base v L w' :=
  World.ownsRow.kept h (row := some c) ⟨o.1, o.2.1, o.2.2.1, o.2.2.2.1, fun i hi hne => o.2.2.2.2 i hi (fun e => hne (by rw [e]))⟩ (.inr hn)
theorem ownU_blk {w : World} {base : Nat} {v : Value} {L : List Oe} (h : OwnU base v L w) {g : Nat} (e : v.ownBlock = some g) : base ≤ g ∧ g < w.heap.size := World.ownsRow.lt h g e
/-- What grows changes no other block. -/
theorem Mut.grow8 {w w' : World} {b : Nat} {vs : List Value} {v : Value} (h : Mut w b vs) (k : w.grownBy w' v.ownBlock) (hn : v.ownBlock ≠ some b) : Mut w' b vs := by
  have hb := k.block b h.1 (fun e => hn e.symm)
  exact ⟨Nat.lt_of_lt_of_le h.1 k.size, fun i x hx => (World.cell?_of_block (w := w) hb).trans (h.2.1 i x hx), fun i hi => (World.frozen?_of_block (w := w) hb).trans (h.2.2 i hi)⟩
theorem OutInt.grow8 {w w' : World} {c n k : Nat} {f : Nat → Int} {v : Value} (h : OutInt c n k f w) (q : w.grownBy w' v.ownBlock) (hn : v.ownBlock ≠ some c) : OutInt c n k f w' := by
  have hb := q.block c h.1 (fun e => hn e.symm)
  refine ⟨Nat.lt_of_lt_of_le h.1 q.size, fun i hi => ?_⟩
  obtain ⟨⟨x, h0, hk⟩, g0⟩ := h.2 i hi
  exact ⟨⟨x, (World.cell?_of_block (w := w) hb).trans h0, hk⟩, (World.frozen?_of_block (w := w) hb).trans g0⟩
end Go.Proofs.Ytjjdfniemlcnnaa

/- Lists of routes that grow in place: what stays, and where they lie then. -/
namespace Go.Proofs.Ytjjdfniemlcnnaa
open Go.RowKit

theorem run_appH2 (ty : TypeId) (w : World) (base : Nat) (v : Value) (L : List Rge) (hown : OwnH base v L w) (sa : Option Addr) (M : List Rge) (c : Nat) (hM : SrcH sa M c w) (hlen : L.length + M.length ≤ 8589934593) (hbase : base ≤ w.heap.size) :
    ∃ v' w', (Builtin.append_ #[37, 37] ty #[v, .slice sa M.length c]).run Try.prog w = .ok v' w' ∧ OwnH base v' (L ++ M) w' ∧ Below base w w' ∧ w.grownBy w' v.ownBlock ∧ (v'.ownBlock = v.ownBlock ∨ v'.ownBlock = some w.heap.size) := by
  obtain ⟨i0, hi, hz0, hz1, hz2⟩ := info_partsH infoRoute
  rcases hM with ⟨hR, ⟨rfl, rfl, rfl⟩ | ⟨b, off, rfl⟩⟩
  · have hrun := run_append_owned_none (P := Try.prog) (w := w) base 37 ty 75 i0 8 Try.underlying37 hi v L.length (hcells L) hown
    exact ⟨v, w, hrun, by simpa using hown, Below.refl _ _, ⟨rfl, rfl, rfl, Nat.le_refl _, fun _ _ _ => rfl⟩, .inl rfl⟩
  · obtain ⟨v', w', hr, h2, h3, _, h5⟩ := run_append_own_at (P := Try.prog) w base 37 ty 75 i0 (.agg #[.int .i64 0, .int .i64 0, .int .i64 0, .slice none 0 0, .int .i64 0, .int .i64 0, .int .i64 0, .slice none 0 0]) 8 96 Try.underlying37 hi hz0 hz1 hz2 rfl (by decide) v L.length (hcells L) hown ⟨b, off, none⟩ M.length c (hcells M) (hc_len M) hR.cells (hc_oneCell M) (by unfold maxLen; omega) (by omega) hbase
    refine ⟨v', w', hr, ?_, grown_belowH hown h3 hbase, h3, h5⟩
    unfold OwnH
    rw [hc_app, List.length_append]
    exact h2
theorem step_appH2 {ops : Array Oper} {o : Oper} {a : Act} {w : World} {K : Act → World → Prop} {Q : Exit → Act → World → Prop} {E : Prop} (hgd : o.guard = none) (s x : Operand)
    (ho : o.op = .call { callee := .builtin .append, args := #[s, x], argTypes := #[37, 37] })
    (base : Nat) (v : Value) (L : List Rge) (hs : a.eval s = v) (hown : OwnH base v L w) (sa : Option Addr) (M : List Rge) (n c : Nat) (hx : a.eval x = .slice sa n c) (hn : n = M.length) (hM : SrcH sa M c w)
    (hlen : L.length + M.length ≤ 8589934593) (hbase : base ≤ w.heap.size)
    (h : ∀ v' w', OwnH base v' (L ++ M) w' → Below base w w' → w.grownBy w' v.ownBlock → (v'.ownBlock = v.ownBlock ∨ v'.ownBlock = some w.heap.size) → K (a.put o.dst v') w') :
    if Region.wanted o (yielded ops a.tmps) = true then Oper.wp Try.prog o a w K Q else E := by
  have hw : Region.wanted o (yielded ops a.tmps) = true := by simp [Region.wanted, hgd]
  rw [if_pos hw]
  subst hn
  obtain ⟨v', w', hr, h2, h3, h4, h5⟩ := run_appH2 o.type w base v L hown sa M c hM hlen hbase
  unfold Oper.wp execOp
  simp only [ho, resolve, invoke, builtin, Sem.run_bind, Sem.run_pure, Result.andThen_ok, List.map_toArray, List.map_cons, List.map_nil, hs, hx, hr]
  exact h v' w' h2 h3 h4 h5
theorem wpList_appH2 {ops : Array Oper} {rest : List Oper} {o : Oper} {a : Act} {w : World} {Q : Exit → Act → World → Prop} (hgd : o.guard = none) (s x : Operand)
    (ho : o.op = .call { callee := .builtin .append, args := #[s, x], argTypes := #[37, 37] })
    (base : Nat) (v : Value) (L : List Rge) (hs : a.eval s = v) (hown : OwnH base v L w) (sa : Option Addr) (M : List Rge) (n c : Nat) (hx : a.eval x = .slice sa n c) (hn : n = M.length) (hM : SrcH sa M c w)
    (hlen : L.length + M.length ≤ 8589934593) (hbase : base ≤ w.heap.size)
    (h : ∀ v' w', OwnH base v' (L ++ M) w' → Below base w w' → w.grownBy w' v.ownBlock → (v'.ownBlock = v.ownBlock ∨ v'.ownBlock = some w.heap.size) → wpList Try.prog ops Q rest (a.put o.dst v') w') : wpList Try.prog ops Q (o :: rest) a w := by
  refine wpList_plain hgd fun _ hK => ?_
  subst hn
  obtain ⟨v', w', hr, h2, h3, h4, h5⟩ := run_appH2 o.type w base v L hown sa M c hM hlen hbase
  unfold Oper.wp execOp
  simp only [ho, resolve, invoke, builtin, Sem.run_bind, Sem.run_pure, Result.andThen_ok, List.map_toArray, List.map_cons, List.map_nil, hs, hx, hr]
  exact hK _ _ (h v' w' h2 h3 h4 h5)
theorem ownH_only {w w' : World} {base c : Nat} {v : Value} {L : List Rge} (h : OwnH base v L w) (o : Only c w w') (hn : v.ownBlock ≠ some c) : OwnH base v L w' :=
  World.ownsRow.kept h (row := some c) ⟨o.1, o.2.1, o.2.2.1, o.2.2.2.1, fun i hi hne => o.2.2.2.2 i hi (fun e => hne (by rw [e]))⟩ (.inr hn)
theorem ownH_blk {w : World} {base : Nat} {v : Value} {L : List Rge} (h : OwnH base v L w) {g : Nat} (e : v.ownBlock = some g) : base ≤ g ∧ g < w.heap.size := World.ownsRow.lt h g e
end Go.Proofs.Ytjjdfniemlcnnaa

namespace Go.Proofs.Ytjjdfniemlcnnaa
open Go.RowKit

theorem rall_next {p : Nat → Bool} {k : Nat} (h : (List.range k).all p = true) (h1 : p k = true) : (List.range (k + 1)).all p = true := by
  rw [List.range_succ, List.all_append, h, Bool.true_and]
  simp [h1]
theorem rall_no {p : Nat → Bool} {n k : Nat} (hk : k < n) (h : p k = false) : (List.range n).all p = false := by
  rw [List.all_eq_false]
  exact ⟨k, List.mem_range.2 hk, by simp [h]⟩

def pathOk (f : Nat → Int) (i : Nat) : Bool := inB (f i) 1 65535
def pathB (n : Nat) (f : Nat → Int) : Bool := (List.range n).all (pathOk f)
def commOk (f : Nat → Int) (i : Nat) : Bool := inB (f i) 0 1000000 && (i == 0 || decide (f (i - 1) < f i))
def commB (n : Nat) (f : Nat → Int) : Bool := (List.range n).all (commOk f)
/-- Attrs are good. -/
def attrB (o nx md pf : Int) (n0 : Nat) (f : Nat → Int) (n1 : Nat) (g : Nat → Int) : Bool :=
  inB o 0 2 && inB nx 0 4294967295 && inB md 0 1000000 && inB pf 0 1000000 && decide (n0 ≤ 10) && pathB n0 f && decide (n1 ≤ 6) && commB n1 g
theorem attrB_path {o nx md pf : Int} {n0 : Nat} {f : Nat → Int} {n1 : Nat} {g : Nat → Int} (h : pathB n0 f = false) : attrB o nx md pf n0 f n1 g = false := by simp [attrB, h]
theorem attrB_comm {o nx md pf : Int} {n0 : Nat} {f : Nat → Int} {n1 : Nat} {g : Nat → Int} (h : commB n1 g = false) : attrB o nx md pf n0 f n1 g = false := by simp [attrB, h]

/-- A number's lowest k bytes, the highest first. -/
def be (n : Int) : Nat → List Int
  | 0 => []
  | k + 1 => be (n / 256) k ++ [n % 256]
theorem be_len (n : Int) (k : Nat) : (be n k).length = k := by
  induction k generalizing n with
  | zero => rfl
  | succ k ih => simp [be, ih]
theorem be_at (n : Int) {k j : Nat} (h : j < k) : (be n k).getD j 0 = n / 256 ^ (k - 1 - j) % 256 := by
  induction k generalizing n with
  | zero => omega
  | succ k ih =>
    unfold be
    by_cases hj : j < k
    · have e : (be (n / 256) k ++ [n % 256]).getD j 0 = (be (n / 256) k).getD j 0 := by
        rw [List.getD_eq_getElem?_getD, List.getD_eq_getElem?_getD, List.getElem?_append_left (by rw [be_len]; exact hj)]
      rw [e, ih (n / 256) hj, Int.ediv_ediv_of_nonneg (by decide)]
      rw [show k + 1 - 1 - j = (k - 1 - j) + 1 by omega, Int.pow_succ, Int.mul_comm]
    · have hj' : j = k := by omega
      subst hj'
      have e : (be (n / 256) j ++ [n % 256]).getD j 0 = n % 256 := by
        rw [List.getD_eq_getElem?_getD, List.getElem?_append_right (by rw [be_len]; exact Nat.le_refl _), be_len]
        simp
      rw [e]
      simp
theorem be_byte (n : Int) (k : Nat) : ∀ x ∈ be n k, 0 ≤ x ∧ x < 256 := by
  induction k generalizing n with
  | zero => simp [be]
  | succ k ih =>
    intro x hx
    simp only [be, List.mem_append, List.mem_singleton] at hx
    rcases hx with hx | rfl
    · exact ih _ x hx
    · omega

theorem str_app (xs ys : List Int) : strOfNums (xs ++ ys) = strOfNums xs ++ strOfNums ys := by
  apply ByteArray.ext
  rw [ByteArray.data_append]
  simp [strOfNums]
theorem str_nil : strOfNums [] = ByteArray.empty := rfl
end Go.Proofs.Ytjjdfniemlcnnaa
