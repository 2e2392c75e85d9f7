/- Codes that communicate within one goroutine, walked piece by piece: what a code comes to where the frame is no early one; its pieces without communication are walked as ever. -/
import Derived.Test.YtoeephmdklmpfaaFeed5
import Derived.Conc.LoneSelect
namespace Go.Proofs.Ytoeephmdklmpfaa
open Go.RowKit Go.Conc

/-- The code comes to an exit that Q tells, in any frame that is no early one. -/
def Wn (P : Program) (c : Code) (Q : Exit → Act → World → Prop) (a : Act) (w : World) : Prop :=
  ∀ (b : Frame) (k : List Item) (cs : List Frame), b.kind ≠ .early → ∃ e a' w', Q e a' w' ∧ Arrives P (lone (b.at a (.code c :: k)) cs w) b k cs e a' w'
/-- The rest of a region, likewise. -/
def On (P : Program) (ops : Array Oper) (Q : Exit → Act → World → Prop) (l : List Nat) (a : Act) (w : World) : Prop :=
  ∀ (b : Frame) (k : List Item) (cs : List Frame), b.kind ≠ .early → ∃ e a' w', Q e a' w' ∧ Arrives P (lone (b.at a (.inRegion ops l :: k)) cs w) b k cs e a' w'
section
variable {P : Program} {Q : Exit → Act → World → Prop} {a : Act} {w w' : World} {ops : Array Oper}
theorem Wn.of {c : Code} (h : c.wp P Q a w) : Wn P c Q a w := fun b k cs _ => h b k cs
theorem Wn.seq {x y : Code} (h : Wn P x (Exit.then (Wn P y Q) Q) a w) : Wn P (.seq x y) Q a w := by
  intro b k cs hb
  obtain ⟨e, a1, w1, hq, ha⟩ := h b (.code y :: k) cs hb
  have go : ∀ e, e ≠ Exit.normal → Q e a1 w1 → Arrives P (lone (b.at a (.code x :: .code y :: k)) cs w) b (.code y :: k) cs e a1 w1 → ∃ e a' w', Q e a' w' ∧ Arrives P (lone (b.at a (.code (.seq x y) :: k)) cs w) b k cs e a' w' := fun e he q r => ⟨e, a1, w1, q, .of_steps (.one step_seq) (.pass (x := .code y) rfl (fun _ _ => .inl he) r)⟩
  cases e with
  | normal =>
    obtain ⟨e2, a2, w2, q2, r2⟩ := hq b k cs hb
    exact ⟨e2, a2, w2, q2, .of_steps (.head step_seq ha) r2⟩
  | exit id => exact go _ (by simp) hq ha
  | goto l => exact go _ (by simp) hq ha
  | ret => exact go _ (by simp) hq ha
  | panic ch => exact go _ (by simp) hq ha
  | outgrown => exact go _ (by simp) hq ha
theorem Wn.cond {c : Operand} {x y : Code} (t : Bool) (hc : a.eval c = .bool t) (h : Wn P (if t then x else y) Q a w) : Wn P (.cond c x y) Q a w :=
  fun b k cs hb => let ⟨e, a', w', q, r⟩ := h b k cs hb; ⟨e, a', w', q, .of_steps (.one (step_cond hc)) r⟩
theorem Wn.block {id : Nat} {c : Code} (h : Wn P c (Exit.inBlock id Q) a w) : Wn P (.block id c) Q a w := by
  intro b k cs hb
  obtain ⟨e, a1, w1, hq, ha⟩ := h b (.inBlock id :: k) cs hb
  cases e with
  | normal => exact ⟨.normal, a1, w1, hq, .head step_block (Steps.trans ha (.one step_inBlock))⟩
  | exit id' =>
    by_cases hid : id' = id
    · simp only [Exit.inBlock, hid, if_true] at hq
      exact ⟨.normal, a1, w1, hq, .head step_block (ha k (by simp [exitTo, hid]))⟩
    · simp only [Exit.inBlock, hid, if_false] at hq
      refine ⟨.exit id', a1, w1, hq, fun k' hk => .head step_block (ha k' ?_)⟩
      have : (id == id') = false := by simp; exact fun h => hid h.symm
      simp [exitTo, this, hk]
  | goto l => exact ⟨_, a1, w1, hq, fun k' hk => .head step_block (ha k' (by simp [gotoIn, hk]))⟩
  | ret => exact ⟨_, a1, w1, hq, .of_steps (.one step_block) ha⟩
  | panic ch => exact ⟨_, a1, w1, hq, .of_steps (.one step_block) ha⟩
  | outgrown => exact ⟨_, a1, w1, hq, .of_steps (b := b) (k := k) (cs := cs) (e := .outgrown) (.one step_block) ha⟩
/-- A loop: what holds ahead of round n; at most N rounds. -/
theorem Wn.loop {c : Code} (N : Nat) (I : Nat → Act → World → Prop) (h0 : I 0 a w) (hN : ∀ n a w, I n a w → n ≤ N)
    (round : ∀ n a w, I n a w → Wn P c (Exit.then (I (n + 1)) Q) a w) : Wn P (.loop c) Q a w := by
  intro b k cs hb
  have key : ∀ m n a w, N + 1 - n = m → I n a w → ∃ e a' w', Q e a' w' ∧ Arrives P (lone (b.at a (.code c :: .inLoop c :: k)) cs w) b k cs e a' w' := by
    intro m
    induction m with
    | zero => intro n a w hm hI; have := hN n a w hI; omega
    | succ m ih =>
      intro n a w hm hI
      obtain ⟨e, a1, w1, hq, ha⟩ := round n a w hI b (.inLoop c :: k) cs hb
      have go : ∀ e, e ≠ Exit.normal → Q e a1 w1 → Arrives P (lone (b.at a (.code c :: .inLoop c :: k)) cs w) b (.inLoop c :: k) cs e a1 w1 → ∃ e a' w', Q e a' w' ∧ Arrives P (lone (b.at a (.code c :: .inLoop c :: k)) cs w) b k cs e a' w' := fun e he q r => ⟨e, a1, w1, q, .pass (x := .inLoop c) rfl (fun _ _ => .inl he) r⟩
      cases e with
      | normal =>
        obtain ⟨e2, a2, w2, q2, r2⟩ := ih (n + 1) a1 w1 (by omega) hq
        exact ⟨e2, a2, w2, q2, .of_steps (Steps.trans ha (.one step_inLoop)) r2⟩
      | exit id => exact go _ (by simp) hq ha
      | goto l => exact go _ (by simp) hq ha
      | ret => exact go _ (by simp) hq ha
      | panic ch => exact go _ (by simp) hq ha
      | outgrown => exact go _ (by simp) hq ha
  obtain ⟨e, a', w', hq, ha⟩ := key _ 0 a w rfl h0
  exact ⟨e, a', w', hq, .of_steps (.one step_loop) ha⟩
theorem Wn.region {id : Nat} (h : On P ops Q (List.range ops.size) a w) : Wn P (.region id ops false) Q a w :=
  fun b k cs hb => let ⟨e, a', w', q, r⟩ := h b k cs hb; ⟨e, a', w', q, .of_steps (.one step_region) r⟩
theorem On.nil (h : Q .normal a w) : On P ops Q [] a w := fun _ _ _ _ => ⟨.normal, a, w, h, .one step_region_end⟩
theorem On.of {l : List Nat} (h : wpOps P ops Q l a w) : On P ops Q l a w := fun b k cs _ => wp_ops l a w h b k cs
variable {i : Nat} {rest : List Nat} {o : Oper}
theorem fin_at (b : Frame) (a : Act) (k : List Item) (ho : ops[i]? = some o) (v : Value) : (b.at a (.inRegion ops (i :: rest) :: k)).finish v = b.at (a.put o.dst v) (.inRegion ops rest :: k) := by
  rw [Frame.finish_at, ho]; rfl
theorem On.value (v : Value) (ho : ops[i]? = some o) (hw : Region.wanted o (yielded ops a.tmps) = true) (hr : (execOp a.eval o).run P w = .ok (.value v) w') (h : On P ops Q rest (a.put o.dst v) w') : On P ops Q (i :: rest) a w := by
  intro b k cs hb
  obtain ⟨e, a', w2, q, r⟩ := h b k cs hb
  refine ⟨e, a', w2, q, .of_steps (.one (step_lone_go ?_)) r⟩
  rw [stepG_op ho hw, ← fin_at b a k ho]
  simp [stepG.apply, hr]
theorem On.send {c cap s r : Nat} {buf : Array Value} {v z : Value} {tm : Bool} (ho : ops[i]? = some o) (hw : Region.wanted o (yielded ops a.tmps) = true) (hr : (execOp a.eval o).run P w = .ok (.comm #[scase c v z] true .send) w)
    (hc : w.heap[c]? = some (.chan cap buf false s r tm)) (hroom : buf.size < cap) (h : On P ops Q rest (a.put o.dst undef) (w.setChan c cap (buf.push v) false (s + 1) r tm)) : On P ops Q (i :: rest) a w := by
  intro b k cs hb
  obtain ⟨e, a', w2, q, y⟩ := h b k cs hb
  refine ⟨e, a', w2, q, .of_steps (.one ?_) y⟩
  rw [← fin_at b a k ho]
  exact step_lone_send_room (stepG_comm ho hw hb hr) hc hroom
theorem On.take {c cap s r : Nat} {buf : Array Value} {z : Value} {tm cl : Bool} (ho : ops[i]? = some o) (hw : Region.wanted o (yielded ops a.tmps) = true) (hr : (execOp a.eval o).run P w = .ok (.comm #[rcase c z] false .select) w)
    (hc : w.heap[c]? = some (.chan cap buf cl s r tm)) (hsome : 0 < buf.size) (h : On P ops Q rest (a.put o.dst (.tuple #[goInt 0, .bool true, buf.getD 0 undef])) (w.setChan c cap (buf.extract 1 buf.size) cl s (r + 1) tm)) : On P ops Q (i :: rest) a w := by
  intro b k cs hb
  obtain ⟨e, a', w2, q, y⟩ := h b k cs hb
  refine ⟨e, a', w2, q, .of_steps (.one ?_) y⟩
  rw [← fin_at b a k ho]
  exact step_lone_select_recv_buf (stepG_comm ho hw hb hr) hc hsome
theorem On.none {c cap s r : Nat} {z : Value} {tm : Bool} (ho : ops[i]? = some o) (hw : Region.wanted o (yielded ops a.tmps) = true) (hr : (execOp a.eval o).run P w = .ok (.comm #[rcase c z] false .select) w)
    (hc : w.heap[c]? = some (.chan cap #[] false s r tm)) (h : On P ops Q rest (a.put o.dst (.tuple #[goInt (-1), .bool false, z])) w) : On P ops Q (i :: rest) a w := by
  intro b k cs hb
  obtain ⟨e, a', w2, q, y⟩ := h b k cs hb
  refine ⟨e, a', w2, q, .of_steps (.one ?_) y⟩
  rw [← fin_at b a k ho]
  exact step_lone_select_default (stepG_comm ho hw hb hr) hc
/-- The call, out of its body. -/
theorem calls_of_Wn {f : FuncId} {fn : Func} {c : Code} {args : Array Value} {R : Ending → World → Prop} (hf : P.funcs[f]? = some fn) (hb : fn.body = some c)
    (h : Wn P c (bodyPost P fn R) { tmps := args ++ Array.replicate (fn.ntmps - args.size) undef, defers := [] } w) : Calls P f args w R := by
  intro cs
  let b : Frame := { (default : Frame) with fn := f, kind := .normal }
  have he : Frame.enter P f args .normal = b.at { tmps := args ++ Array.replicate (fn.ntmps - args.size) undef, defers := [] } [.code c] := by
    simp [Frame.enter, Frame.at, hf, hb, b]
  obtain ⟨e, a', w', hq, ha⟩ := h b [] cs (by simp [b])
  rw [← he] at ha
  cases e with
  | normal =>
    obtain ⟨hd, v, hr, hR⟩ := hq
    exact ⟨.returned v, w', _, hR, Steps.trans ha (.one step_end), rfl, rfl, hd, rfl, fn, hf, hr⟩
  | ret =>
    obtain ⟨hd, v, hr, hR⟩ := hq
    obtain ⟨todo, hs⟩ := ha
    exact ⟨.returned v, w', _, hR, hs, rfl, rfl, hd, rfl, fn, hf, hr⟩
  | panic chain =>
    obtain ⟨hd, hR⟩ := hq
    obtain ⟨todo, hs⟩ := ha
    exact ⟨.panicked chain, w', _, hR, hs, rfl, rfl, hd, fn, hf⟩
  | exit id => exact hq.elim
  | goto l => exact hq.elim
  | outgrown => exact ⟨.outgrown, w', b, hq, ha.resolve_left (by simp [b]), rfl, trivial⟩
end
end Go.Proofs.Ytoeephmdklmpfaa
