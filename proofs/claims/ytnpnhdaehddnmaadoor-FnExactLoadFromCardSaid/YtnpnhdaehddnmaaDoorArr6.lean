/- Arrays in memory: rows of flags, a whole array loaded and stored. -/
import Derived.Test.YtnpnhdaehddnmaaDoorMut4
import Derived.Laws.IdiomCopy
import Derived.Laws.StructEq
namespace Go.Proofs.YtnpnhdaehddnmaaDoor
open Go.RowKit

/-- A row of flags. -/
def bits (n : Nat) (f : Nat → Bool) : List Value := (List.range n).map fun k => .bool (f k)
theorem bits_len (n : Nat) (f : Nat → Bool) : (bits n f).length = n := by simp [bits]
theorem bits_get {n : Nat} {f : Nat → Bool} {k : Nat} (h : k < n) : (bits n f)[k]? = some (.bool (f k)) := by simp [bits, h]
theorem bits_set {n : Nat} {f : Nat → Bool} (k : Nat) (b : Bool) : (bits n f).set k (.bool b) = bits n (fun j => if j = k then b else f j) := by
  apply List.ext_getElem?
  intro i
  by_cases hi : i < n
  · rw [bits_get hi]
    by_cases e : i = k
    · subst e
      rw [List.getElem?_set_self (by rw [bits_len]; exact hi)]
      simp
    · rw [List.getElem?_set_ne (by omega), bits_get hi, if_neg e]
  · rw [List.getElem?_eq_none (by rw [List.length_set, bits_len]; omega), List.getElem?_eq_none (by rw [bits_len]; omega)]
theorem bits_congr {n : Nat} {f g : Nat → Bool} (h : ∀ k, k < n → f k = g k) : bits n f = bits n g := by
  unfold bits
  exact List.map_congr_left fun k hk => by rw [h k (List.mem_range.1 hk)]
theorem load_mut {P : Program} {w : World} {b : Nat} {vs : List Value} {t : TypeId} {n : Nat} {e : TypeId} (h : Mut w b vs) (hu : P.underlying t = some (.array n e)) (hi : (P.info? t).map (·.size) = some vs.length) :
    (Instr.loadAt t (.pointer (some ⟨b, 0, none⟩))).run P w = .ok (.agg vs.toArray) w := by
  have hl := run_loadCells_list (P := P) w ⟨b, 0, none⟩ vs (fun j v hv => by
    have hadd : (⟨b, 0, none⟩ : Addr).add j = ⟨b, j, none⟩ := by unfold Addr.add; split <;> simp_all
    rw [hadd]; exact h.2.1 j v hv)
  cases hq : P.info? t with
  | none => simp [hq] at hi
  | some i =>
    have hs : i.size = vs.length := by simpa [hq] using hi
    simp [Instr.loadAt, Instr.sureAddr, loadVar, isAgg, sizeOf, typeInfo, underlying, hu, hq, hs, hl]
/-- A whole array is loaded. -/
theorem wpList_loadM {P : Program} {ops : Array Oper} {rest : List Oper} {o : Oper} {a : Act} {w : World} {Q : Exit → Act → World → Prop} (hg : o.guard = none) {t : TypeId} {x : Operand} (ho : o.op = .load t x) {b : Nat} {vs : List Value} {n : Nat} {e : TypeId}
    (hx : a.eval x = .pointer (some ⟨b, 0, none⟩)) (hM : Mut w b vs) (hu : P.underlying t = some (.array n e)) (hi : (P.info? t).map (·.size) = some vs.length)
    (h : wpList P ops Q rest (a.put o.dst (.agg vs.toArray)) w) : wpList P ops Q (o :: rest) a w := by
  have hr : (execOp a.eval o).run P w = .ok (.value (.agg vs.toArray)) w := by
    unfold execOp
    rw [ho]
    simp [hx, load_mut hM hu hi]
  refine wpList_plain hg fun K hK => ?_
  unfold Oper.wp
  rw [hr, Oper.upon_value]
  exact hK _ _ h
theorem only_cells (b : Nat) : ∀ (vs : List Value) (o : Nat) (w : World), Only b w (w.setCells b o vs)
  | [], _, w => Only.refl b w
  | v :: r, o, w => ((Only.refl b w).setCell o v).trans (only_cells b r (o + 1) _)
theorem Mut.fill {w : World} {b : Nat} {vs us : List Value} (h : Mut w b vs) (hl : us.length = vs.length) : Mut (w.setCells b 0 us) b us := by
  refine ⟨Nat.lt_of_lt_of_le h.1 (only_cells b us 0 w).2.2.2.1, fun i v hv => ?_, fun i hi => ?_⟩
  · obtain ⟨hi, e⟩ := List.getElem?_eq_some_iff.1 hv
    have := World.cell?_setCells_in b us 0 w (fun i hi => by
      have hi' : i < vs.length := by omega
      rw [Nat.zero_add, h.2.1 i _ (List.getElem?_eq_getElem hi')]; rfl) i hi
    rw [Nat.zero_add] at this
    rw [this]
    simp [e]
  · rw [World.frozen?_setCells]
    exact h.2.2 i (by omega)
theorem store_mut {P : Program} {w : World} {b : Nat} {vs us : List Value} {t : TypeId} (h : Mut w b vs) (hl : us.length = vs.length) (h1 : ∀ v ∈ us, v.oneCell' = true) (hi : (P.info? t).map (·.size) = some us.length) :
    (Instr.storeAt t (.pointer (some ⟨b, 0, none⟩)) (.agg us.toArray)).run P w = .ok () (w.setCells b 0 us) := by
  have hl := run_storeCells_cells (P := P) b 0 us 0 w (fun j hj => by
      have hj' : j < vs.length := by omega
      rw [Nat.zero_add, h.2.1 j _ (List.getElem?_eq_getElem hj')]; rfl) (fun j hj => by
      rw [Nat.zero_add]; exact h.2.2 j (by omega)) h1
  cases hq : P.info? t with
  | none => simp [hq] at hi
  | some i =>
    have hs : i.size = us.length := by simpa [hq] using hi
    simp [Instr.storeAt, Instr.sureAddr, storeVar, sizeOf, typeInfo, hq, hs, Value.cells, hl]
/-- A whole array is stored. -/
theorem wpList_storeM {P : Program} {ops : Array Oper} {rest : List Oper} {o : Oper} {a : Act} {w : World} {Q : Exit → Act → World → Prop} (hg : o.guard = none) {t : TypeId} {x y : Operand} (ho : o.op = .store t x y) {b : Nat} {vs us : List Value}
    (hx : a.eval x = .pointer (some ⟨b, 0, none⟩)) (hy : a.eval y = .agg us.toArray) (hM : Mut w b vs) (hl : us.length = vs.length) (h1 : ∀ v ∈ us, v.oneCell' = true) (hi : (P.info? t).map (·.size) = some us.length)
    (h : ∀ w', Mut w' b us → Only b w w' → wpList P ops Q rest (a.put o.dst undef) w') : wpList P ops Q (o :: rest) a w := by
  have hr : (execOp a.eval o).run P w = .ok .skip (w.setCells b 0 us) := by
    unfold execOp
    rw [ho]
    simp [hx, hy, store_mut hM hl h1 hi]
  refine wpList_plain hg fun K hK => ?_
  unfold Oper.wp
  rw [hr, Oper.upon_skip]
  exact hK _ _ (h _ (hM.fill hl) (only_cells b us 0 w))
theorem results_arr {P : Program} {fn : Func} {tmps : Array Value} {w : World} {b : Nat} {vs : List Value} {t : TypeId} {n : Nat} {e : TypeId} {i : Tmp} (hf : fn.results = #[.cell i t]) (hx : tmps.getD i undef = .pointer (some ⟨b, 0, none⟩)) (hM : Mut w b vs) (hu : P.underlying t = some (.array n e)) (hi : (P.info? t).map (·.size) = some vs.length) :
    (results fn tmps).run P w = .ok (.agg vs.toArray) w := by
  have h := load_mut hM hu hi
  simp [Instr.loadAt, Instr.sureAddr] at h
  have hx' : tmps[i]?.getD undef = .pointer (some ⟨b, 0, none⟩) := by simpa using hx
  simp [results, hf, hx', asAddr, h]
/-- Two arrays are held against each other part by part. -/
theorem run_equalIn_arr {P : Program} (w : World) (d : Nat) (t e : TypeId) (n m : Nat) (ht : P.underlying t = some (.array n e)) (hsz : ∀ w, (sizeOf e).run P w = .ok m w) (xs ys : Array Value) (vx vy : Nat → Value) (b : Nat → Bool)
    (px : ∀ i, i < n → (part e xs (i * m)).run P w = .ok (vx i) w) (py : ∀ i, i < n → (part e ys (i * m)).run P w = .ok (vy i) w) (pe : ∀ i, i < n → (Op.equalIn d e (vx i) (vy i)).run P w = .ok (b i) w) :
    (Op.equalIn (d + 1) t (.agg xs) (.agg ys)).run P w = .ok ((List.range n).all b) w := by
  rw [List.range_eq_range', Op.equalIn]
  simp only [Sem.run_bind, run_underlying ht, Result.andThen_ok, hsz, Std.Legacy.Range.forIn_eq_forIn_range', Std.Legacy.Range.size, Nat.sub_zero, Nat.add_sub_cancel, Nat.div_one]
  have hl : ∀ i ∈ List.range' 0 n 1, i < n := fun i hi => by simpa using (List.mem_range'_1.1 hi).2
  generalize List.range' 0 n 1 = l at hl ⊢
  induction l with
  | nil => simp
  | cons i l ih =>
    have hi : i < n := hl i (by simp)
    simp only [List.forIn_cons, Sem.run_bind, px i hi, py i hi, pe i hi, Result.andThen_ok, List.all_cons]
    cases hb : b i
    · simp
    · simp only [Bool.not_true, Bool.false_eq_true, if_false, Sem.run_pure, Result.andThen_ok, Bool.true_and]
      exact ih fun j hj => hl j (by simp [hj])
theorem run_equalIn_bits {P : Program} (w : World) (d : Nat) (t e : TypeId) (n : Nat) (ht : P.underlying t = some (.array n e)) (he : P.underlying e = some .bool) (hsz : ∀ w, (sizeOf e).run P w = .ok 1 w) (f g : Nat → Bool) :
    (Op.equalIn (d + 2) t (.agg (bits n f).toArray) (.agg (bits n g).toArray)).run P w = .ok ((List.range n).all fun i => f i == g i) w := by
  refine run_equalIn_arr w (d + 1) t e n 1 ht hsz _ _ (fun i => .bool (f i)) (fun i => .bool (g i)) _ (fun i hi => ?_) (fun i hi => ?_) (fun i hi => ?_)
  · simp [part, isAgg, run_underlying he, bits_get hi]
  · simp [part, isAgg, run_underlying he, bits_get hi]
  · simp [Op.equalIn, run_underlying he]
theorem all_bits {n : Nat} {f g : Nat → Bool} : ((List.range n).all fun i => f i == g i) = true ↔ ∀ k, k < n → f k = g k := by
  rw [List.all_eq_true]
  constructor
  · intro h k hk
    exact eq_of_beq (h k (List.mem_range.2 hk))
  · intro h k hk
    exact beq_iff_eq.2 (h k (List.mem_range.1 hk))
/-- Two whole arrays are compared. -/
theorem wpList_eqlM {P : Program} {ops : Array Oper} {rest : List Oper} {o : Oper} {a : Act} {w : World} {Q : Exit → Act → World → Prop} (hg : o.guard = none) {t t' : TypeId} {x y : Operand} (ho : o.op = .binOp .eql t x y t') {xs ys : Array Value} {r : Bool}
    (hx : a.eval x = .agg xs) (hy : a.eval y = .agg ys) (hgd : P.eqGuardType P.depth t = false) (hr : (Op.equalIn 10000 t (.agg xs) (.agg ys)).run P w = .ok r w)
    (h : wpList P ops Q rest (a.put o.dst (.bool r)) w) : wpList P ops Q (o :: rest) a w := by
  have hr : (execOp a.eval o).run P w = .ok (.value (.bool r)) w := by
    unfold execOp
    rw [ho]
    simp [hx, hy, eqGuard, hgd, run_eql_struct, hr, run_program]
  refine wpList_plain hg fun K hK => ?_
  unfold Oper.wp
  rw [hr, Oper.upon_value]
  exact hK _ _ h
theorem bits_one (n : Nat) (f : Nat → Bool) : ∀ v ∈ bits n f, v.oneCell' = true := by
  intro v hv
  obtain ⟨k, _, rfl⟩ := List.mem_map.1 hv
  rfl
/-- How many flags of a row in memory are set. -/
def isT : Option Value → Bool
  | some (.bool true) => true
  | _ => false
def cntW (n : Nat) (w : World) (b : Nat) : Nat := (List.range n).countP fun k => isT (w.cell? ⟨b, k, none⟩)
theorem cntW_bits {n : Nat} {w : World} {b : Nat} {f : Nat → Bool} (h : Mut w b (bits n f)) : cntW n w b = (List.range n).countP f := by
  refine List.countP_congr fun k hk => ?_
  rw [h.2.1 k _ (bits_get (List.mem_range.1 hk))]
  cases f k <;> simp [isT]
end Go.Proofs.YtnpnhdaehddnmaaDoor
