/- The plain meaning of offers: which are good, their order, the best one. -/
import Derived.Test.YtjjdfniemlcnnabMemU
import Derived.Test.YtjjdfniemlcnnabAll2
import Derived.Test.YtjjdfniemlcnnabAll1
import Derived.Laws.BytesArg
import Derived.Test.YtjjdfniemlcnnabOff8
/- Lists of offers that grow in place: what stays, and where they lie then. -/
namespace Go.Proofs.Ytjjdfniemlcnnab
open Go.RowKit

theorem run_appU2 (ty : TypeId) (w : World) (base : Nat) (v : Value) (L : List Oe) (hown : OwnU base v L w) (sa : Option Addr) (M : List Oe) (c : Nat) (hM : SrcU sa M c w) (hlen : L.length + M.length ≤ 8589934593) (hbase : base ≤ w.heap.size) :
    ∃ v' w', (Builtin.append_ #[26, 26] ty #[v, .slice sa M.length c]).run Try.prog w = .ok v' w' ∧ OwnU base v' (L ++ M) w' ∧ Below base w w' ∧ w.grownBy w' v.ownBlock ∧ (v'.ownBlock = v.ownBlock ∨ v'.ownBlock = some w.heap.size) := by
  obtain ⟨i0, hi, hz0, hz1, hz2⟩ := info_partsU infoOffer
  rcases hM with ⟨hR, ⟨rfl, rfl, rfl⟩ | ⟨b, off, rfl⟩⟩
  · have hrun := run_append_owned_none (P := Try.prog) (w := w) base 26 ty 51 i0 7 Try.underlying26 hi v L.length (ucells L) hown
    exact ⟨v, w, hrun, by simpa using hown, Below.refl _ _, ⟨rfl, rfl, rfl, Nat.le_refl _, fun _ _ _ => rfl⟩, .inl rfl⟩
  · obtain ⟨v', w', hr, h2, h3, _, h5⟩ := run_append_own_at (P := Try.prog) w base 26 ty 51 i0 (.agg #[.int .i64 0, .int .i64 0, .slice none 0 0, .int .i64 0, .int .i64 0, .int .i64 0, .slice none 0 0]) 7 88 Try.underlying26 hi hz0 hz1 hz2 rfl (by decide) v L.length (ucells L) hown ⟨b, off, none⟩ M.length c (ucells M) (uc_len M) hR.cells (uc_oneCell M) (by unfold maxLen; omega) (by omega) hbase
    refine ⟨v', w', hr, ?_, grown_belowU hown h3 hbase, h3, h5⟩
    unfold OwnU
    rw [uc_app, List.length_append]
    exact h2
theorem step_appU2 {ops : Array Oper} {o : Oper} {a : Act} {w : World} {K : Act → World → Prop} {Q : Exit → Act → World → Prop} {E : Prop} (hgd : o.guard = none) (s x : Operand)
    (ho : o.op = .call { callee := .builtin .append, args := #[s, x], argTypes := #[26, 26] })
    (base : Nat) (v : Value) (L : List Oe) (hs : a.eval s = v) (hown : OwnU base v L w) (sa : Option Addr) (M : List Oe) (n c : Nat) (hx : a.eval x = .slice sa n c) (hn : n = M.length) (hM : SrcU sa M c w)
    (hlen : L.length + M.length ≤ 8589934593) (hbase : base ≤ w.heap.size)
    (h : ∀ v' w', OwnU base v' (L ++ M) w' → Below base w w' → w.grownBy w' v.ownBlock → (v'.ownBlock = v.ownBlock ∨ v'.ownBlock = some w.heap.size) → K (a.put o.dst v') w') :
    if Region.wanted o (yielded ops a.tmps) = true then Oper.wp Try.prog o a w K Q else E := by
  have hw : Region.wanted o (yielded ops a.tmps) = true := by simp [Region.wanted, hgd]
  rw [if_pos hw]
  subst hn
  obtain ⟨v', w', hr, h2, h3, h4, h5⟩ := run_appU2 o.type w base v L hown sa M c hM hlen hbase
  unfold Oper.wp execOp
  simp only [ho, resolve, invoke, builtin, Sem.run_bind, Sem.run_pure, Result.andThen_ok, List.map_toArray, List.map_cons, List.map_nil, hs, hx, hr]
  exact h v' w' h2 h3 h4 h5
theorem wpList_appU2 {ops : Array Oper} {rest : List Oper} {o : Oper} {a : Act} {w : World} {Q : Exit → Act → World → Prop} (hgd : o.guard = none) (s x : Operand)
    (ho : o.op = .call { callee := .builtin .append, args := #[s, x], argTypes := #[26, 26] })
    (base : Nat) (v : Value) (L : List Oe) (hs : a.eval s = v) (hown : OwnU base v L w) (sa : Option Addr) (M : List Oe) (n c : Nat) (hx : a.eval x = .slice sa n c) (hn : n = M.length) (hM : SrcU sa M c w)
    (hlen : L.length + M.length ≤ 8589934593) (hbase : base ≤ w.heap.size)
    (h : ∀ v' w', OwnU base v' (L ++ M) w' → Below base w w' → w.grownBy w' v.ownBlock → (v'.ownBlock = v.ownBlock ∨ v'.ownBlock = some w.heap.size) → wpList Try.prog ops Q rest (a.put o.dst v') w') : wpList Try.prog ops Q (o :: rest) a w := by
  refine wpList_plain hgd fun _ hK => ?_
  subst hn
  obtain ⟨v', w', hr, h2, h3, h4, h5⟩ := run_appU2 o.type w base v L hown sa M c hM hlen hbase
  unfold Oper.wp execOp
  simp only [ho, resolve, invoke, builtin, Sem.run_bind, Sem.run_pure, Result.andThen_ok, List.map_toArray, List.map_cons, List.map_nil, hs, hx, hr]
  exact hK _ _ (h v' w' h2 h3 h4 h5)
theorem ownU_only {w w' : World} {base c : Nat} {v : Value} {L : List Oe} (h : OwnU base v L w) (o : Only c w w') (hn : v.ownBlock ≠ some c) : OwnU base v L w' :=
  World.ownsRow.kept h (row := some c) ⟨o.1, o.2.1, o.2.2.1, o.2.2.2.1, fun i hi hne => o.2.2.2.2 i hi (fun e => hne (by rw [e]))⟩ (.inr hn)
theorem ownU_blk {w : World} {base : Nat} {v : Value} {L : List Oe} (h : OwnU base v L w) {g : Nat} (e : v.ownBlock = some g) : base ≤ g ∧ g < w.heap.size := World.ownsRow.lt h g e
/-- What grows changes no other block. -/
theorem Mut.grow8 {w w' : World} {b : Nat} {vs : List Value} {v : Value} (h : Mut w b vs) (k : w.grownBy w' v.ownBlock) (hn : v.ownBlock ≠ some b) : Mut w' b vs := by
  have hb := k.block b h.1 (fun e => hn e.symm)
  exact ⟨Nat.lt_of_lt_of_le h.1 k.size, fun i x hx => (World.cell?_of_block (w := w) hb).trans (h.2.1 i x hx), fun i hi => (World.frozen?_of_block (w := w) hb).trans (h.2.2 i hi)⟩
theorem OutInt.grow8 {w w' : World} {c n k : Nat} {f : Nat → Int} {v : Value} (h : OutInt c n k f w) (q : w.grownBy w' v.ownBlock) (hn : v.ownBlock ≠ some c) : OutInt c n k f w' := by
  have hb := q.block c h.1 (fun e => hn e.symm)
  refine ⟨Nat.lt_of_lt_of_le h.1 q.size, fun i hi => ?_⟩
  obtain ⟨⟨x, h0, hk⟩, g0⟩ := h.2 i hi
  exact ⟨⟨x, (World.cell?_of_block (w := w) hb).trans h0, hk⟩, (World.frozen?_of_block (w := w) hb).trans g0⟩
end Go.Proofs.Ytjjdfniemlcnnab

/- Chapter 4 in plain words: good attrs, and numbers as bytes, the highest first. -/
namespace Go.Proofs.Ytjjdfniemlcnnab
open Go.RowKit

theorem rall_next {p : Nat → Bool} {k : Nat} (h : (List.range k).all p = true) (h1 : p k = true) : (List.range (k + 1)).all p = true := by
  rw [List.range_succ, List.all_append, h, Bool.true_and]
  simp [h1]
theorem rall_no {p : Nat → Bool} {n k : Nat} (hk : k < n) (h : p k = false) : (List.range n).all p = false := by
  rw [List.all_eq_false]
  exact ⟨k, List.mem_range.2 hk, by simp [h]⟩

def pathOk (f : Nat → Int) (i : Nat) : Bool := inB (f i) 1 65535
def pathB (n : Nat) (f : Nat → Int) : Bool := (List.range n).all (pathOk f)
def commOk (f : Nat → Int) (i : Nat) : Bool := inB (f i) 0 1000000 && (i == 0 || decide (f (i - 1) < f i))
def commB (n : Nat) (f : Nat → Int) : Bool := (List.range n).all (commOk f)
/-- Attrs are good. -/
def attrB (o nx md pf : Int) (n0 : Nat) (f : Nat → Int) (n1 : Nat) (g : Nat → Int) : Bool :=
  inB o 0 2 && inB nx 0 4294967295 && inB md 0 1000000 && inB pf 0 1000000 && decide (n0 ≤ 10) && pathB n0 f && decide (n1 ≤ 6) && commB n1 g
theorem attrB_path {o nx md pf : Int} {n0 : Nat} {f : Nat → Int} {n1 : Nat} {g : Nat → Int} (h : pathB n0 f = false) : attrB o nx md pf n0 f n1 g = false := by simp [attrB, h]
theorem attrB_comm {o nx md pf : Int} {n0 : Nat} {f : Nat → Int} {n1 : Nat} {g : Nat → Int} (h : commB n1 g = false) : attrB o nx md pf n0 f n1 g = false := by simp [attrB, h]

/-- A number's lowest k bytes, the highest first. -/
def be (n : Int) : Nat → List Int
  | 0 => []
  | k + 1 => be (n / 256) k ++ [n % 256]
theorem be_len (n : Int) (k : Nat) : (be n k).length = k := by
  induction k generalizing n with
  | zero => rfl
  | succ k ih => simp [be, ih]
theorem be_at (n : Int) {k j : Nat} (h : j < k) : (be n k).getD j 0 = n / 256 ^ (k - 1 - j) % 256 := by
  induction k generalizing n with
  | zero => omega
  | succ k ih =>
    unfold be
    by_cases hj : j < k
    · have e : (be (n / 256) k ++ [n % 256]).getD j 0 = (be (n / 256) k).getD j 0 := by
        rw [List.getD_eq_getElem?_getD, List.getD_eq_getElem?_getD, List.getElem?_append_left (by rw [be_len]; exact hj)]
      rw [e, ih (n / 256) hj, Int.ediv_ediv_of_nonneg (by decide)]
      rw [show k + 1 - 1 - j = (k - 1 - j) + 1 by omega, Int.pow_succ, Int.mul_comm]
    · have hj' : j = k := by omega
      subst hj'
      have e : (be (n / 256) j ++ [n % 256]).getD j 0 = n % 256 := by
        rw [List.getD_eq_getElem?_getD, List.getElem?_append_right (by rw [be_len]; exact Nat.le_refl _), be_len]
        simp
      rw [e]
      simp
theorem be_byte (n : Int) (k : Nat) : ∀ x ∈ be n k, 0 ≤ x ∧ x < 256 := by
  induction k generalizing n with
  | zero => simp [be]
  | succ k ih =>
    intro x hx
    simp only [be, List.mem_append, List.mem_singleton] at hx
    rcases hx with hx | rfl
    · exact ih _ x hx
    · omega

theorem str_app (xs ys : List Int) : strOfNums (xs ++ ys) = strOfNums xs ++ strOfNums ys := by
  apply ByteArray.ext
  rw [ByteArray.data_append]
  simp [strOfNums]
theorem str_nil : strOfNums [] = ByteArray.empty := rfl
end Go.Proofs.Ytjjdfniemlcnnab

namespace Go.Proofs.Ytjjdfniemlcnnab
open Go.RowKit

/-- Whether an offer is good. -/
def oaB (t : Oc) : Bool := attrB t.o t.nx t.md t.pf t.n0 t.f t.n1 t.g
def ofB (t : Oc) : Bool := inB t.pe 0 5 && oaB t
def stO (T : Nat → Oc) (i : Nat) : Bool := ofB (T i) && (decide (i = 0) || decide ((T (i - 1)).pe < (T i).pe))
def osB (n : Nat) (T : Nat → Oc) : Bool := (List.range n).all (stO T)
theorem osB_iff {n : Nat} {T : Nat → Oc} : osB n T = true ↔ ∀ i, i < n → stO T i = true := by simp [osB]
theorem os_no {n k : Nat} {T : Nat → Oc} (hk : k < n) (h : stO T k = false) : osB n T = false := by
  cases e : osB n T with
  | false => rfl
  | true => rw [osB_iff.1 e k hk] at h; exact h
theorem os_all {n : Nat} {T : Nat → Oc} (h : ∀ i, i < n → stO T i = true) : osB n T = true := osB_iff.2 h
theorem os_next {k : Nat} {T : Nat → Oc} (h : ∀ i, i < k → stO T i = true) (e : stO T k = true) : ∀ i, i < k + 1 → stO T i = true := by
  intro i hi
  by_cases c : i = k
  · rw [c]; exact e
  · exact h i (by omega)
theorem st_zero (T : Nat → Oc) : stO T 0 = ofB (T 0) := by simp [stO]
theorem st_succ (T : Nat → Oc) {k : Nat} (h : 0 < k) : stO T k = (ofB (T k) && decide ((T (k - 1)).pe < (T k).pe)) := by
  have : ¬ k = 0 := by omega
  simp [stO, this]
theorem os_of {n i : Nat} {T : Nat → Oc} (h : osB n T = true) (hi : i < n) : ofB (T i) = true := by
  have := osB_iff.1 h i hi
  simp only [stO, Bool.and_eq_true] at this
  exact this.1
theorem of_pe {t : Oc} (h : ofB t = true) : 0 ≤ t.pe ∧ t.pe ≤ 5 := by
  simp only [ofB, Bool.and_eq_true] at h
  exact inB_iff.1 h.1
theorem os_lt {n : Nat} {T : Nat → Oc} (h : osB n T = true) : ∀ j, j < n → ∀ i, i < j → (T i).pe < (T j).pe := by
  intro j
  induction j with
  | zero => intro _ i hi; omega
  | succ j ih =>
    intro hj i hi
    have h1 := osB_iff.1 h (j + 1) hj
    rw [st_succ T (by omega)] at h1
    simp only [Bool.and_eq_true, decide_eq_true_eq, Nat.add_sub_cancel] at h1
    by_cases e : i = j
    · rw [e]; exact h1.2
    · have := ih (by omega) i (by omega)
      omega
theorem os_ge {n : Nat} {T : Nat → Oc} (h : osB n T = true) : ∀ i, i < n → (i : Int) ≤ (T i).pe := by
  intro i
  induction i with
  | zero => intro hi; have := of_pe (os_of h hi); omega
  | succ i ih =>
    intro hi
    have h1 := ih (by omega)
    have h2 := os_lt h (i + 1) hi i (by omega)
    omega
theorem os_six {n : Nat} {T : Nat → Oc} (h : osB n T = true) : n ≤ 6 := by
  by_cases e : n ≤ 6
  · exact e
  · have h1 := os_ge h 6 (by omega)
    have h2 := of_pe (os_of h (show 6 < n by omega))
    omega
/-- The first number that is not 0, or what follows. -/
def firstO : List Int → Int → Int
  | [], d => d
  | x :: l, d => if x = 0 then firstO l d else x
def stepsO (a b : Oc) : List Int := [cmpI b.pf a.pf, cmpI a.n0 b.n0, cmpI a.o b.o, cmpI a.md b.md, cmpI a.nx b.nx]
/-- The order of two offers. -/
def cmpO (a b : Oc) : Int := if a.pe = b.pe then 0 else firstO (stepsO a b) (cmpI a.pe b.pe)
theorem firstO_end (l : List Int) (x : Int) : firstO (l ++ [x]) 0 = firstO l x := by
  induction l with
  | nil => by_cases h : x = 0 <;> simp [firstO, h]
  | cons y l ih => by_cases h : y = 0 <;> simp [firstO, h, ih]
theorem firstO_skip {l : List Int} {k : Nat} (h : ∀ i, i < k → l.getD i 0 = 0) (d : Int) : firstO l d = firstO (l.drop k) d := by
  induction k generalizing l with
  | zero => simp
  | succ k ih =>
    cases l with
    | nil => simp
    | cons x l =>
      have h0 : x = 0 := by simpa using h 0 (by omega)
      simp only [firstO, h0, if_true, List.drop_succ_cons]
      exact ih (fun i hi => by simpa using h (i + 1) (by omega))
theorem firstO_hit {l : List Int} {k : Nat} (h : ∀ i, i < k → l.getD i 0 = 0) (hk : l.getD k 0 ≠ 0) (d : Int) : firstO l d = l.getD k 0 := by
  induction k generalizing l with
  | zero =>
    cases l with
    | nil => simp at hk
    | cons x l =>
      have hx : x ≠ 0 := by simpa using hk
      simp [firstO, hx]
  | succ k ih =>
    cases l with
    | nil => simp at hk
    | cons x l =>
      have h0 : x = 0 := by simpa using h 0 (by omega)
      simp only [firstO, h0, if_true, List.getD_cons_succ]
      exact ih (fun i hi => by simpa using h (i + 1) (by omega)) (by simpa using hk)
theorem firstO_none {l : List Int} (h : ∀ i, i < l.length → l.getD i 0 = 0) (d : Int) : firstO l d = d := by
  induction l with
  | nil => rfl
  | cons x l ih =>
    have h0 : x = 0 := by simpa using h 0 (by simp)
    simp only [firstO, h0, if_true]
    exact ih (fun i hi => by simpa using h (i + 1) (by simpa using hi))
theorem getD_next {l : List Int} {k : Nat} (h : ∀ i, i < k → l.getD i 0 = 0) (e : l.getD k 0 = 0) : ∀ i, i < k + 1 → l.getD i 0 = 0 := by
  intro i hi
  by_cases c : i = k
  · rw [c]; exact e
  · exact h i (by omega)
theorem cmpI_swap (x y : Int) : cmpI y x = - cmpI x y := by
  unfold cmpI
  split <;> split <;> first | omega | (split <;> omega) | rfl
theorem cmpI_zero {x y : Int} : cmpI x y = 0 ↔ x = y := by
  unfold cmpI
  constructor
  · intro h; split at h
    · omega
    · split at h <;> omega
  · intro h; rw [if_neg (by omega), if_neg (by omega)]
theorem cmpI_neg {x y : Int} : cmpI x y < 0 ↔ x < y := by
  unfold cmpI
  constructor
  · intro h; split at h
    · assumption
    · split at h <;> omega
  · intro h; rw [if_pos h]; omega
/-- The place of the best one of the first k + 1. -/
def pkO (T : Nat → Oc) : Nat → Nat
  | 0 => 0
  | k + 1 => if cmpO (T (k + 1)) (T (pkO T k)) < 0 then k + 1 else pkO T k
theorem pkO_le (T : Nat → Oc) (k : Nat) : pkO T k ≤ k := by
  induction k with
  | zero => exact Nat.le_refl _
  | succ k ih =>
    simp only [pkO]
    split <;> omega
/-- What BestOffer answers. -/
def bestK (n : Nat) (T : Nat → Oc) : Bool := osB n T && decide (0 < n)
def bestV (n : Nat) (T : Nat → Oc) : Int := if bestK n T = true then (T (pkO T (n - 1))).pe else 0
theorem bestK_no {n : Nat} {T : Nat → Oc} (h : osB n T = false) : bestK n T = false := by simp [bestK, h]
theorem bestK_zero {T : Nat → Oc} : bestK 0 T = false := by simp [bestK]
theorem bestK_yes {n : Nat} {T : Nat → Oc} (h : osB n T = true) (h0 : 0 < n) : bestK n T = true := by simp [bestK, h, h0]
theorem bestV_no {n : Nat} {T : Nat → Oc} (h : bestK n T = false) : bestV n T = 0 := by simp [bestV, h]
theorem bestV_yes {n : Nat} {T : Nat → Oc} (h : bestK n T = true) : bestV n T = (T (pkO T (n - 1))).pe := by simp [bestV, h]
end Go.Proofs.Ytjjdfniemlcnnab
