/- Appending so many zero strings. -/
import Derived.Test.YtoeephmdklmpfaaKit
import Derived.ChangeKeysEq
import Derived.Laws.AppendOwnNone
import Derived.Maps.AppendAt
import Derived.Deep.AppendLies
import Derived.Test.YtoeephmdklmpfaaDr
/- Lists of strings in memory: as they lie, and in memory of one's own; what append does with them. -/
namespace Go.Proofs.Ytoeephmdklmpfaa
open Go.RowKit

def tcells (L : List ByteArray) : List Value := L.map .string
theorem tc_len (L : List ByteArray) : (tcells L).length = L.length := by simp [tcells]
theorem tc_app (L M : List ByteArray) : tcells (L ++ M) = tcells L ++ tcells M := by simp [tcells]
theorem tc_one (L : List ByteArray) : ∀ u ∈ tcells L, u.oneCell' = true := by
  intro u hu
  simp only [tcells, List.mem_map] at hu
  obtain ⟨x, _, rfl⟩ := hu
  rfl
theorem tc_at {L : List ByteArray} {i : Nat} (h : i < L.length) : (tcells L)[i]? = some (.string (L.getD i ByteArray.empty)) := by
  simp [tcells, List.getElem?_eq_getElem h]

/-- The strings L lie at a. -/
def RowT (a : Option Addr) (L : List ByteArray) (w : World) : Prop := ∀ i, i < L.length → ∃ b off, a = some ⟨b, off, none⟩ ∧ b < w.heap.size ∧ w.cell? ⟨b, off + i, none⟩ = some (.string (L.getD i ByteArray.empty))
theorem RowT.below {a : Option Addr} {L : List ByteArray} {w w' : World} (h : RowT a L w) (hb : Below w.heap.size w w') : RowT a L w' := by
  intro i hi
  obtain ⟨b, off, ha, hlt, h0⟩ := h i hi
  exact ⟨b, off, ha, Nat.lt_of_lt_of_le hlt hb.size, ((bcell hb).1 _ _ hlt).trans h0⟩
theorem RowT.base {a : Option Addr} {base : Nat} {L : List ByteArray} {w w' : World} (h : RowT a L w) (hb : ∀ b off, a = some ⟨b, off, none⟩ → b < base) (d : Below base w w') : RowT a L w' := by
  intro i hi
  obtain ⟨b, off, ha, hlt, h0⟩ := h i hi
  exact ⟨b, off, ha, Nat.lt_of_lt_of_le hlt d.size, (d.cell (p := ⟨b, off + i, none⟩) (hb b off ha)).trans h0⟩
theorem RowT.nil (a : Option Addr) (w : World) : RowT a [] w := fun _ hi => absurd hi (Nat.not_lt_zero _)
theorem RowT.take {a : Option Addr} {L : List ByteArray} {w : World} (h : RowT a L w) (n : Nat) : RowT a (L.take n) w := by
  intro i hi
  rw [List.length_take] at hi
  obtain ⟨b, off, ha, hlt, h0⟩ := h i (by omega)
  refine ⟨b, off, ha, hlt, ?_⟩
  rw [h0]
  congr 2
  rw [List.getD_eq_getElem?_getD, List.getD_eq_getElem?_getD, List.getElem?_take]
  rw [if_pos (by omega)]
theorem RowT.cells {b off : Nat} {L : List ByteArray} {w : World} (h : RowT (some ⟨b, off, none⟩) L w) : ∀ j u, (tcells L)[j]? = some u → w.cell? ((⟨b, off, none⟩ : Addr).add j) = some u := by
  intro j u hu
  have hj : j < L.length := by
    have := (List.getElem?_eq_some_iff.1 hu).1
    rwa [tc_len] at this
  obtain ⟨b', off', ha, _, h0⟩ := h j hj
  simp only [Option.some.injEq, Addr.mk.injEq, and_true] at ha
  obtain ⟨rfl, rfl⟩ := ha
  rw [tc_at hj] at hu
  have hadd : (⟨b, off, none⟩ : Addr).add j = ⟨b, off + j, none⟩ := by
    simp only [Addr.add]
    split
    · rename_i h; rw [h]; simp
    · rfl
  rw [hadd, h0]
  exact hu

/-- The list L lies in memory of one's own. -/
def OwnT (e : TypeId) (base : Nat) (v : Value) (L : List ByteArray) (w : World) : Prop := w.ownsRow base e 1 v L.length (tcells L)
theorem ownT_nil (e : TypeId) (base : Nat) (w : World) : OwnT e base (.slice none 0 0) [] w := World.ownsRow_nil w base e 1
theorem ownT_below {e : TypeId} {w w' : World} {base : Nat} {v : Value} {L : List ByteArray} (h : OwnT e base v L w) (hb : Below w.heap.size w w') : OwnT e base v L w' :=
  World.ownsRow.kept h (row := none) ⟨hb.os, hb.tape, hb.output, hb.size, fun k hk _ => hb.block k hk⟩ (by cases hv : v.ownBlock with
    | none => exact .inl rfl
    | some b => exact .inr (by simp))
theorem ownT_base {e : TypeId} {w : World} {base base' : Nat} {v : Value} {L : List ByteArray} (h : OwnT e base v L w) (hb : base' ≤ base) : OwnT e base' v L w := by
  refine ⟨h.1, ?_⟩
  rcases h.2 with h | ⟨g, cap, cur, h1, h2, h3⟩
  · exact .inl h
  · exact .inr ⟨g, cap, cur, h1, Nat.le_trans hb h2, h3⟩
theorem ownT_shape {e : TypeId} {w : World} {base : Nat} {v : Value} {L : List ByteArray} (h : OwnT e base v L w) (h0 : L ≠ []) : ∃ g cap, v = .slice (some ⟨g, 0, none⟩) L.length cap ∧ base ≤ g ∧ g < w.heap.size := by
  rcases h.2 with ⟨_, h1⟩ | ⟨g, cap, cur, rfl, hb, hg, _⟩
  · exact absurd (List.eq_nil_of_length_eq_zero h1) h0
  · exact ⟨g, cap, rfl, hb, (Array.getElem?_eq_some_iff.1 hg).1⟩
theorem ownT_at {e : TypeId} {w : World} {base g cap : Nat} {L : List ByteArray} (h : OwnT e base (.slice (some ⟨g, 0, none⟩) L.length cap) L w) {i : Nat} (hi : i < L.length) : w.cell? ⟨g, i, none⟩ = some (.string (L.getD i ByteArray.empty)) :=
  (World.ownsRow.cellAt (show w.ownsRow base e 1 (.slice (some ⟨g, 0, none⟩) L.length cap) L.length (tcells L) from h) i (by omega)).trans (tc_at hi)
theorem ownT_row {e : TypeId} {w : World} {base : Nat} {v : Value} {L : List ByteArray} (h : OwnT e base v L w) : ∃ a cap, v = .slice a L.length cap ∧ RowT a L w ∧ ((a = none ∧ cap = 0 ∧ L = []) ∨ ∃ g, a = some ⟨g, 0, none⟩ ∧ base ≤ g ∧ g < w.heap.size) := by
  by_cases h0 : L = []
  · subst h0
    rcases h.2 with ⟨rfl, h1⟩ | ⟨g, cap, cur, rfl, hb, hg, _⟩
    · exact ⟨none, 0, rfl, RowT.nil _ _, .inl ⟨rfl, rfl, rfl⟩⟩
    · exact ⟨some ⟨g, 0, none⟩, cap, rfl, RowT.nil _ _, .inr ⟨g, rfl, hb, (Array.getElem?_eq_some_iff.1 hg).1⟩⟩
  · obtain ⟨g, cap, rfl, hb, hg⟩ := ownT_shape h h0
    exact ⟨some ⟨g, 0, none⟩, cap, rfl, fun i hi => ⟨g, 0, rfl, hg, by rw [Nat.zero_add]; exact ownT_at h hi⟩, .inr ⟨g, rfl, hb, hg⟩⟩
theorem grown_belowT {e : TypeId} {w w' : World} {base : Nat} {v : Value} {L : List ByteArray} (h : OwnT e base v L w) (hg : w.grownBy w' v.ownBlock) (hb : base ≤ w.heap.size) : Below base w w' := by
  refine ⟨hg.os, hg.tape, hg.output, hg.size, fun k hk => hg.block k (by omega) (fun e => ?_)⟩
  rcases h.2 with ⟨rfl, _⟩ | ⟨g, cap, cur, rfl, hbg, _⟩
  · simp [Value.ownBlock] at e
  · simp [Value.ownBlock] at e
    omega
/-- A block that was made whole. -/
theorem ownT_made (e : TypeId) (w : World) (L : List ByteArray) (hL : L.length ≤ maxLen) : OwnT e w.heap.size (.slice (some ⟨w.heap.size, 0, none⟩) L.length L.length) L (w.alloc (.cells (tcells L).toArray e)) :=
  ⟨by rw [tc_len, Nat.mul_one], .inr ⟨w.heap.size, L.length, (tcells L).toArray, rfl, Nat.le_refl _, heap_alloc_new w _, Nat.le_refl _, hL, by simp [tc_len], by
    rw [Nat.mul_one, ← tc_len L]
    simp⟩⟩

/-- A source of an append: nil, or at an address. -/
def SrcT (a : Option Addr) (M : List ByteArray) (c : Nat) (w : World) : Prop := RowT a M w ∧ ((a = none ∧ M = [] ∧ c = 0) ∨ ∃ b off, a = some ⟨b, off, none⟩)
theorem SrcT.below {a : Option Addr} {M : List ByteArray} {c : Nat} {w w' : World} (h : SrcT a M c w) (hb : Below w.heap.size w w') : SrcT a M c w' := ⟨h.1.below hb, h.2⟩
theorem SrcT.own {e : TypeId} {w : World} {base : Nat} {v : Value} {L : List ByteArray} (h : OwnT e base v L w) : ∃ a cap, v = .slice a L.length cap ∧ SrcT a L cap w := by
  obtain ⟨a, cap, h1, h2, h3⟩ := ownT_row h
  refine ⟨a, cap, h1, h2, ?_⟩
  rcases h3 with ⟨e1, e2, e3⟩ | ⟨g, e1, _⟩
  · exact .inl ⟨e1, e3, e2⟩
  · exact .inr ⟨g, 0, e1⟩

/-- What is known of a type of strings. -/
def StrT (P : Program) (t e : TypeId) (bytes : Nat) : Prop := P.underlying t = some (.slice e) ∧ (P.info? e).map (fun i => (i.zero, i.size, i.bytes)) = some (some (.string ByteArray.empty), 1, bytes)
theorem run_appT {P : Program} {t e : TypeId} {bytes : Nat} (hT : StrT P t e bytes) (ty : TypeId) (w : World) (base : Nat) (v : Value) (L : List ByteArray) (hown : OwnT e base v L w) (sa : Option Addr) (M : List ByteArray) (c : Nat) (hM : SrcT sa M c w)
    (hlen : L.length + M.length ≤ 8589934593) (hby : bytes ≤ 16) (hbase : base ≤ w.heap.size) :
    ∃ v' w', (Builtin.append_ #[t, t] ty #[v, .slice sa M.length c]).run P w = .ok v' w' ∧ OwnT e base v' (L ++ M) w' ∧ Below base w w' ∧ w.grownBy w' v.ownBlock ∧ (v'.ownBlock = v.ownBlock ∨ v'.ownBlock = some w.heap.size) := by
  obtain ⟨ht, hinfo⟩ := hT
  obtain ⟨i, hi, hz⟩ := Option.map_eq_some_iff.1 hinfo
  simp only [Prod.mk.injEq] at hz
  obtain ⟨hz0, hz1, hz2⟩ := hz
  have hnb : (L.length + M.length) * bytes ≤ 140737488355328 := by
    have := Nat.mul_le_mul_left (L.length + M.length) hby
    omega
  rcases hM with ⟨hR, ⟨rfl, rfl, rfl⟩ | ⟨b, off, rfl⟩⟩
  · have hrun := run_append_owned_none (P := P) (w := w) base t ty e i 1 ht hi v L.length (tcells L) hown
    exact ⟨v, w, hrun, by simpa using hown, Below.refl _ _, ⟨rfl, rfl, rfl, Nat.le_refl _, fun _ _ _ => rfl⟩, .inl rfl⟩
  · obtain ⟨v', w', hr, h2, h3, _, h5⟩ := run_append_own_at (P := P) w base t ty e i (.string ByteArray.empty) 1 bytes ht hi hz0 hz1 hz2 rfl (by decide) v L.length (tcells L) hown ⟨b, off, none⟩ M.length c (tcells M) (by rw [tc_len, Nat.mul_one]) hR.cells (tc_one M) (by unfold maxLen; omega) hnb hbase
    refine ⟨v', w', hr, ?_, grown_belowT hown h3 hbase, h3, h5⟩
    unfold OwnT
    rw [tc_app, List.length_append]
    exact h2
theorem wp_appT {P : Program} {t e : TypeId} {bytes : Nat} (hT : StrT P t e bytes) {o : Oper} {a : Act} {w : World} {K : Act → World → Prop} {Q : Exit → Act → World → Prop} (s x : Operand)
    (ho : o.op = .call { callee := .builtin .append, args := #[s, x], argTypes := #[t, t] })
    (base : Nat) (v : Value) (L : List ByteArray) (hs : a.eval s = v) (hown : OwnT e base v L w) (sa : Option Addr) (M : List ByteArray) (n c : Nat) (hx : a.eval x = .slice sa n c) (hn : n = M.length) (hM : SrcT sa M c w)
    (hlen : L.length + M.length ≤ 8589934593) (hby : bytes ≤ 16) (hbase : base ≤ w.heap.size)
    (h : ∀ v' w', OwnT e base v' (L ++ M) w' → Below base w w' → w.grownBy w' v.ownBlock → (v'.ownBlock = v.ownBlock ∨ v'.ownBlock = some w.heap.size) → K (a.put o.dst v') w') : o.wp P a w K Q := by
  subst hn
  obtain ⟨v', w', hr, h2, h3, h4, h5⟩ := run_appT hT o.type w base v L hown sa M c hM hlen hby hbase
  unfold Oper.wp execOp
  simp only [ho, resolve, invoke, builtin, Sem.run_bind, Sem.run_pure, Result.andThen_ok, List.map_toArray, List.map_cons, List.map_nil, hs, hx, hr]
  exact h v' w' h2 h3 h4 h5
theorem wpList_appT {P : Program} {t e : TypeId} {bytes : Nat} (hT : StrT P t e bytes) {ops : Array Oper} {rest : List Oper} {o : Oper} {a : Act} {w : World} {Q : Exit → Act → World → Prop} (hgd : o.guard = none) (s x : Operand)
    (ho : o.op = .call { callee := .builtin .append, args := #[s, x], argTypes := #[t, t] })
    (base : Nat) (v : Value) (L : List ByteArray) (hs : a.eval s = v) (hown : OwnT e base v L w) (sa : Option Addr) (M : List ByteArray) (n c : Nat) (hx : a.eval x = .slice sa n c) (hn : n = M.length) (hM : SrcT sa M c w)
    (hlen : L.length + M.length ≤ 8589934593) (hby : bytes ≤ 16) (hbase : base ≤ w.heap.size)
    (h : ∀ v' w', OwnT e base v' (L ++ M) w' → Below base w w' → w.grownBy w' v.ownBlock → (v'.ownBlock = v.ownBlock ∨ v'.ownBlock = some w.heap.size) → wpList P ops Q rest (a.put o.dst v') w') : wpList P ops Q (o :: rest) a w :=
  wpList_plain hgd fun _ hK => wp_appT hT s x ho base v L hs hown sa M n c hx hn hM hlen hby hbase fun v' w' h2 h3 h4 h5 => hK _ _ (h v' w' h2 h3 h4 h5)
theorem step_appT {P : Program} {t e : TypeId} {bytes : Nat} (hT : StrT P t e bytes) {ops : Array Oper} {o : Oper} {a : Act} {w : World} {K : Act → World → Prop} {Q : Exit → Act → World → Prop} {E : Prop} (hgd : o.guard = none) (s x : Operand)
    (ho : o.op = .call { callee := .builtin .append, args := #[s, x], argTypes := #[t, t] })
    (base : Nat) (v : Value) (L : List ByteArray) (hs : a.eval s = v) (hown : OwnT e base v L w) (sa : Option Addr) (M : List ByteArray) (n c : Nat) (hx : a.eval x = .slice sa n c) (hn : n = M.length) (hM : SrcT sa M c w)
    (hlen : L.length + M.length ≤ 8589934593) (hby : bytes ≤ 16) (hbase : base ≤ w.heap.size)
    (h : ∀ v' w', OwnT e base v' (L ++ M) w' → Below base w w' → w.grownBy w' v.ownBlock → (v'.ownBlock = v.ownBlock ∨ v'.ownBlock = some w.heap.size) → K (a.put o.dst v') w') :
    if Region.wanted o (yielded ops a.tmps) = true then Oper.wp P o a w K Q else E := by
  have hw : Region.wanted o (yielded ops a.tmps) = true := by simp [Region.wanted, hgd]
  rw [if_pos hw]
  exact wp_appT hT s x ho base v L hs hown sa M n c hx hn hM hlen hby hbase h
theorem strT : StrT Try.prog 63 9 16 := ⟨Try.underlying63, by kernel_rfl⟩
end Go.Proofs.Ytoeephmdklmpfaa

/- The specification's drawn pieces: a list of short strings, in memory of its own. -/
namespace Go.Proofs.Ytoeephmdklmpfaa
open Go.RowKit

theorem ownT_lt {e : TypeId} {base b : Nat} {v : Value} {L : List ByteArray} {w : World} (h : OwnT e base v L w) (hv : v.ownBlock = some b) : base ≤ b := by
  rcases h.2 with ⟨rfl, _⟩ | ⟨g, cap, cur, rfl, hb, _⟩
  · simp [Value.ownBlock] at hv
  · simp [Value.ownBlock] at hv
    omega
theorem ownT_only {e : TypeId} {base c : Nat} {v : Value} {L : List ByteArray} {w w' : World} (h : OwnT e base v L w) (k : Only c w w') (hc : c < base) : OwnT e base v L w' :=
  World.ownsRow.kept h (row := some c) ⟨k.1, k.2.1, k.2.2.1, k.2.2.2.1, fun i hi hn => k.2.2.2.2 i hi (fun e => hn (by rw [e]))⟩ (by
    cases hv : v.ownBlock with
    | none => exact .inl rfl
    | some b => exact .inr (fun e => by have := ownT_lt h hv; simp at e; omega))
theorem only_thenB {c : Nat} {w x y : World} (h : Only c w x) (k : Below w.heap.size x y) : Only c w y :=
  ⟨k.os.trans h.1, k.tape.trans h.2.1, k.output.trans h.2.2.1, Nat.le_trans h.2.2.2.1 k.size, fun i hi hn => (k.block i hi).trans (h.2.2.2.2 i hi hn)⟩
theorem cur_base {c n base : Nat} {v : Value} {w w' : World} (h : Cur c v n w) (hc : c < base) (k : Below base w w') : Cur c v n w' := by
  obtain ⟨p, s, h0, h1, hcw, c0, c1, c2, hs, f0, f1, f2⟩ := h
  have hb := k.block c hc
  have hc' : ∀ o, w'.cell? ⟨c, o, none⟩ = w.cell? ⟨c, o, none⟩ := fun o => World.cell?_of_block (w := w) hb
  have hf' : ∀ o, w'.frozen? ⟨c, o, none⟩ = w.frozen? ⟨c, o, none⟩ := fun o => World.frozen?_of_block (w := w) hb
  exact ⟨p, s, h0, h1, Nat.lt_of_lt_of_le hcw k.size, (hc' _).trans c0, (hc' _).trans c1, (hc' _).trans c2, hs, (hf' _).trans f0, (hf' _).trans f1, (hf' _).trans f2⟩
theorem srcT1 (w : World) (s : ByteArray) (t : TypeId) : SrcT (some ⟨w.heap.size, 0, none⟩) [s] 1 (w.alloc (.cells #[.string s] t)) := by
  refine ⟨fun i hi => ?_, .inr ⟨_, _, rfl⟩⟩
  obtain rfl : i = 0 := by simpa using hi
  exact ⟨_, 0, rfl, by simp, by simp [go_sem]⟩
def sizeV : Value → Nat
  | .string S => S.size
  | _ => 0
set_option maxRecDepth 100000 in
set_option maxHeartbeats 6400000 in
theorem d_pieces (c : Nat) (v : Value) (len n : Nat) (w : World) (hn : n ≤ 700000) (hcur : Cur c v n w) (hby : BytesAt c w v len) :
    Calls Try.prog 86 #[.pointer (some ⟨c, 0, none⟩)] w fun e w' =>
      ∃ (u : Value) (L : List ByteArray), L.length ≤ 60 ∧ (∀ s ∈ L, s.size ≤ 1302) ∧ e = .returned u ∧ OwnT 9 w.heap.size u L w' ∧ Cur c v (n + 400) w' ∧ Only c w w' := by
  have hcw : c < w.heap.size := by obtain ⟨p, s, h0, h1, hc, _⟩ := hcur; exact hc
  go_enter Try.func86, Try.ntmps86
  go_wp2_with fail
  refine (d_stream c v len n _ (by omega) hcur hby).mono ?_
  rintro e W1 ⟨S1, h1, rfl, hc1, ho1⟩
  clear hcur
  go_wp2_with fail
  go_loopw [3, 4] (fun ss ll wr => ∃ (S : ByteArray) (L : List ByteArray) (m : Nat), ss = .string S ∧ S.size ≤ 1302 ∧ Hid (∀ s ∈ L, s.size ≤ 1302) ∧ (L.length ≤ 59 ∨ (L.length = 60 ∧ S.size = 0)) ∧ m ≤ n + 200 + 2 * L.length ∧ OwnT 9 w.heap.size ll L wr ∧ Cur c v m wr ∧ Only c w wr) (fun ss _ _ => sizeV ss)
  case atStart => exact ⟨S1, [], n + 200, rfl, h1, fun s hs => absurd hs (by simp), .inl (by simp), by simp, ownT_nil _ _ _, hc1, ho1⟩
  case round =>
    clear hc1 ho1 h1
    obtain ⟨S, L, m, rfl, hS, hL, hcase, hm, hown, hC, hO⟩ := hrel
    by_cases hS0 : S.size = 0
    · have hne : S.toList.isEmpty = true := by rw [toList_nil]; simp [hS0]
      go_wp2_with fail
      go_ret
      exact ⟨_, L, by omega, hL.out, rfl, hown, cur_up hC (by omega), hO⟩
    · have hne : S.toList.isEmpty = false := by rw [toList_nil]; simp [hS0]
      obtain ⟨al, capl, rfl, _⟩ := ownT_row hown
      have hL59 : L.length ≤ 59 := by omega
      go_wp2_with fail
      refine (d_pick c v len m 9 _ (by omega) (by omega) hC (hby.only hO (Nat.le_refl _))).mono ?_
      rintro e W2 ⟨r2, h20, h21, rfl, hC2, ho2⟩
      obtain ⟨q, rfl⟩ := Int.eq_ofNat_of_zero_le h20
      have hO2 := hO.trans ho2
      have hown2 := ownT_only hown ho2 hcw
      have hS1 : S.size ≠ 0 := hS0
      clear hC hO ho2 hown hcase hS0
      by_cases hb : 1 + (q : Int) > (S.size : Int)
      · have hz0 : (0 : Int) ≤ (S.size : Int) := by omega
        have hz1 : (S.size : Int) ≤ (S.size : Int) := by omega
        have hE : (S).size ≤ 1302 := by omega
        have hR := hide (show (S.extract (S.size) S.size).size = S.size - (S.size) by rw [ByteArray.size_extract]; omega)
        have hsrc := srcT1 W2 (S) 9
        have hownA : OwnT 9 w.heap.size (.slice al L.length capl) L (W2.alloc (.cells #[.string (S)] 9)) := ownT_below hown2 (below_box (Below.refl _ _))
        have hOA : Only c w (W2.alloc (.cells #[.string (S)] 9)) := hO2.alloc _
        have hCA : Cur c v (m + 2) (W2.alloc (.cells #[.string (S)] 9)) := cur_below hC2 (below_box (Below.refl _ _))
        have hbs : w.heap.size ≤ (W2.alloc (.cells #[.string (S)] 9)).heap.size := hOA.2.2.2.1
        have hLL : Hid (L.length + [S].length ≤ 8589934593) := by show _ ≤ _; simp; omega
        clear hown2 hO2 hC2
        go_wp2_with (first | (at_builtin; refine wpList_appT strT rfl _ _ rfl w.heap.size _ L rfl hownA _ [S] 1 1 rfl rfl hsrc hLL.out (by decide) hbs ?_))
        intro v4 w4 own4 b4 _ _
        have hC4 := cur_base hCA hcw b4
        have hO4 := only_thenB hOA b4
        clear hownA hsrc hCA hOA b4
        go_wp2_with fail
        exact ⟨⟨_, _, m + 2, rfl, by first | (rw [hR.out]; omega) | simp, fun s hs => by
          rcases List.mem_append.1 hs with h | h
          · exact hL.out s h
          · rw [List.mem_singleton.1 h]; exact hE, by first | (rw [List.length_append, hR.out]; simp; omega) | (rw [List.length_append]; simp; omega), by rw [List.length_append]; simp; omega, own4, hC4, hO4⟩, by first | (show (S.extract (S.size) S.size).size < S.size; rw [hR.out]; omega) | (simp [sizeV]; omega)⟩
      · by_cases h59 : (L.length : Int) = 59
        · have hz0 : (0 : Int) ≤ (S.size : Int) := by omega
          have hz1 : (S.size : Int) ≤ (S.size : Int) := by omega
          have hE : (S).size ≤ 1302 := by omega
          have hR := hide (show (S.extract (S.size) S.size).size = S.size - (S.size) by rw [ByteArray.size_extract]; omega)
          have hsrc := srcT1 W2 (S) 9
          have hownA : OwnT 9 w.heap.size (.slice al L.length capl) L (W2.alloc (.cells #[.string (S)] 9)) := ownT_below hown2 (below_box (Below.refl _ _))
          have hOA : Only c w (W2.alloc (.cells #[.string (S)] 9)) := hO2.alloc _
          have hCA : Cur c v (m + 2) (W2.alloc (.cells #[.string (S)] 9)) := cur_below hC2 (below_box (Below.refl _ _))
          have hbs : w.heap.size ≤ (W2.alloc (.cells #[.string (S)] 9)).heap.size := hOA.2.2.2.1
          have hLL : Hid (L.length + [S].length ≤ 8589934593) := by show _ ≤ _; simp; omega
          clear hown2 hO2 hC2
          go_wp2_with (first | (at_builtin; refine wpList_appT strT rfl _ _ rfl w.heap.size _ L rfl hownA _ [S] 1 1 rfl rfl hsrc hLL.out (by decide) hbs ?_))
          intro v4 w4 own4 b4 _ _
          have hC4 := cur_base hCA hcw b4
          have hO4 := only_thenB hOA b4
          clear hownA hsrc hCA hOA b4
          go_wp2_with fail
          exact ⟨⟨_, _, m + 2, rfl, by first | (rw [hR.out]; omega) | simp, fun s hs => by
            rcases List.mem_append.1 hs with h | h
            · exact hL.out s h
            · rw [List.mem_singleton.1 h]; exact hE, by first | (rw [List.length_append, hR.out]; simp; omega) | (rw [List.length_append]; simp; omega), by rw [List.length_append]; simp; omega, own4, hC4, hO4⟩, by first | (show (S.extract (S.size) S.size).size < S.size; rw [hR.out]; omega) | (simp [sizeV]; omega)⟩
        · have hz0 : (0 : Int) ≤ 1 + (q : Int) := by omega
          have hz1 : 1 + (q : Int) ≤ (S.size : Int) := by omega
          have h59' : ((L.length : Int) == 59) = false := by simpa using h59
          have htn : (1 + (q : Int)).toNat = 1 + q := by omega
          have hE : (S.extract 0 (1 + q)).size ≤ 1302 := by rw [ByteArray.size_extract]; omega
          have hR := hide (show (S.extract (1 + q) S.size).size = S.size - (1 + q) by rw [ByteArray.size_extract]; omega)
          have hsrc := srcT1 W2 (S.extract 0 (1 + q)) 9
          have hownA : OwnT 9 w.heap.size (.slice al L.length capl) L (W2.alloc (.cells #[.string (S.extract 0 (1 + q))] 9)) := ownT_below hown2 (below_box (Below.refl _ _))
          have hOA : Only c w (W2.alloc (.cells #[.string (S.extract 0 (1 + q))] 9)) := hO2.alloc _
          have hCA : Cur c v (m + 2) (W2.alloc (.cells #[.string (S.extract 0 (1 + q))] 9)) := cur_below hC2 (below_box (Below.refl _ _))
          have hbs : w.heap.size ≤ (W2.alloc (.cells #[.string (S.extract 0 (1 + q))] 9)).heap.size := hOA.2.2.2.1
          have hLL : Hid (L.length + [S.extract 0 (1 + q)].length ≤ 8589934593) := by show _ ≤ _; simp; omega
          clear hown2 hO2 hC2
          go_wp2_with (first | (at_builtin; refine wpList_appT strT rfl _ _ rfl w.heap.size _ L rfl hownA _ [S.extract 0 (1 + q)] 1 1 rfl rfl hsrc hLL.out (by decide) hbs ?_))
          intro v4 w4 own4 b4 _ _
          have hC4 := cur_base hCA hcw b4
          have hO4 := only_thenB hOA b4
          clear hownA hsrc hCA hOA b4
          go_wp2_with fail
          exact ⟨⟨_, _, m + 2, rfl, by first | (rw [hR.out]; omega) | simp, fun s hs => by
            rcases List.mem_append.1 hs with h | h
            · exact hL.out s h
            · rw [List.mem_singleton.1 h]; exact hE, by first | (rw [List.length_append, hR.out]; simp; omega) | (rw [List.length_append]; simp; omega), by rw [List.length_append]; simp; omega, own4, hC4, hO4⟩, by first | (show (S.extract (1 + q) S.size).size < S.size; rw [hR.out]; omega) | (simp [sizeV]; omega)⟩
end Go.Proofs.Ytoeephmdklmpfaa

namespace Go.Proofs.Ytoeephmdklmpfaa
open Go.RowKit

theorem zeroT (m : Nat) : Builtin.zeroCells #[.string ByteArray.empty] m = (tcells (List.replicate m ByteArray.empty)).toArray := by
  apply Array.ext'
  simp only [Builtin.zeroCells, tcells, List.map_replicate, Array.toList_map, Array.toList_range, List.size_toArray, List.length_cons, List.length_nil, Nat.zero_add, Nat.mul_one, Nat.mod_one]
  rw [List.eq_replicate_iff]
  refine ⟨by simp, fun b hb => ?_⟩
  simp at hb
  rw [hb.2]
theorem old_heap (w : World) (o : Obj) (k : Nat) (h : k < w.heap.size) : (w.drew.alloc o).heap[k]? = w.heap[k]? := heap_alloc_old w.drew o h
theorem run_appZ {P : Program} {t e ti : TypeId} {bytes : Nat} (hT : StrT P t e bytes) (hti : P.underlying ti = some (.int .i64)) (ty : TypeId) (w : World) (base : Nat) (v : Value) (L : List ByteArray) (hown : OwnT e base v L w) (m : Nat) (hm : 0 < m) (hm2 : m ≤ 1000) (hlen : L.length ≤ 1000) (hby : bytes ≤ 16) (hbase : base ≤ w.heap.size) :
    ∃ v' w', (Builtin.append_ #[t, ti] ty #[v, .int .i64 m]).run P w = .ok v' w' ∧ OwnT e base v' (L ++ List.replicate m ByteArray.empty) w' ∧ Below base w w' := by
  obtain ⟨ht, hinfo⟩ := hT
  obtain ⟨i, hi, hz⟩ := Option.map_eq_some_iff.1 hinfo
  simp only [Prod.mk.injEq] at hz
  obtain ⟨hz0, hz1, hz2⟩ := hz
  have hl2 : (tcells (L ++ List.replicate m ByteArray.empty)).length = L.length + m := by rw [tc_len, List.length_append, List.length_replicate]
  have hw : IntKind.i64.wrap (m : Int) = m := wrap_small (m : Int) (by omega) (by omega)
  have hb1 : (L.length + m) * bytes ≤ 140737488355328 := by
    have := Nat.mul_le_mul_left (L.length + m) hby
    omega
  have hmb : ¬ (281474976710656 < (m : Int) * (bytes : Int)) := by
    have := Nat.mul_le_mul_left m hby
    have h2 : (m : Int) * (bytes : Int) = ((m * bytes : Nat) : Int) := by simp
    omega
  have hn0 : ¬ ((m : Int) < 0) := by omega
  have hm0 : ¬ (m = 0) := by omega
  have zc := zeroT m
  have grown : ∀ (old : Nat), old < L.length + m →
      OwnT e base (.slice (some ⟨w.heap.size, 0, none⟩) (L.length + m) (grownCap w (L.length + m) old e)) (L ++ List.replicate m ByteArray.empty) (w.drew.alloc (.cells ((tcells L).toArray ++ (tcells (List.replicate m ByteArray.empty)).toArray ++ Builtin.zeroCells #[.string ByteArray.empty] (grownCap w (L.length + m) old e - (L.length + m))) e)) ∧
      Below base w (w.drew.alloc (.cells ((tcells L).toArray ++ (tcells (List.replicate m ByteArray.empty)).toArray ++ Builtin.zeroCells #[.string ByteArray.empty] (grownCap w (L.length + m) old e - (L.length + m))) e)) := by
    intro old ho
    have hge := grownCap_ge w (L.length + m) old e
    have hcm : grownCap w (L.length + m) old e ≤ maxLen := grownCap_le_maxLen w (L.length + m) old e (by unfold maxLen; omega)
    refine ⟨⟨by rw [hl2, List.length_append, List.length_replicate, Nat.mul_one], .inr ⟨w.heap.size, _, _, by rw [List.length_append, List.length_replicate], hbase, heap_alloc_new w.drew _, by rw [List.length_append, List.length_replicate]; exact hge, hcm, ?_, ?_⟩⟩, ⟨rfl, rfl, rfl, by simp, fun k hk => (old_heap w _ k (by omega))⟩⟩
    · simp only [Array.size_append, List.size_toArray, size_zeroCells, tc_len, List.length_replicate, List.length_cons, List.length_nil]
      omega
    · rw [List.length_append, List.length_replicate, Nat.mul_one]
      simp only [Array.toList_append, tc_app]
      exact List.take_left' (by rw [List.length_append, tc_len, tc_len, List.length_replicate])
  rcases hown.2 with ⟨rfl, h0⟩ | ⟨g, cap, cur, rfl, hbg, hg, hnc, hcm, hcs, htake⟩
  · have hL : L = [] := List.eq_nil_of_length_eq_zero h0
    subst hL
    have hgr := grown 0 (by simp; omega)
    have h48' : ¬ (281474976710656 < Builtin.nextslicecap m 0 * bytes) := by
      have := growslice_fits (need := m) (old := 0) (bytes := bytes) hm (by simpa using hb1)
      omega
    have h63' : ¬ (9223372036854775807 < (m : Int)) := by omega
    refine ⟨_, _, ?_, hgr.1, hgr.2⟩
    simp [Builtin.append_, run_underlying ht, run_underlying hti, sizeOf, typeInfo, zeroValue, hi, hz0, hz1, hz2, hw, hn0, hmb, hm0, h63', h48', Question.forced, newRow, grownCap, Builtin.firstCells, asInt, asIntOf, Value.cells, zc, tcells]
  · have hcs1 : cur.size = cap := by omega
    have hone := tc_one (List.replicate m ByteArray.empty)
    have hzl : (tcells (List.replicate m ByteArray.empty)).length = m := by rw [tc_len, List.length_replicate]
    have hxl : (tcells L).length = L.length := tc_len L
    rw [Nat.mul_one] at htake
    by_cases hroom : L.length + m ≤ cap
    · have hst := run_storeCells_at P g L.length e (tcells (List.replicate m ByteArray.empty)) 0 cur w hg (by rw [hzl]; omega) hone
      simp only [Nat.add_zero] at hst
      refine ⟨.slice (some ⟨g, 0, none⟩) (L.length + m) cap, w.setRow g (cur.toList.take L.length ++ tcells (List.replicate m ByteArray.empty) ++ cur.toList.drop (L.length + (tcells (List.replicate m ByteArray.empty)).length)).toArray, ?_, ⟨by rw [hl2, List.length_append, List.length_replicate, Nat.mul_one], .inr ⟨g, cap, _, by rw [List.length_append, List.length_replicate], hbg, setRow_heap w g cur _ e _ hg, by rw [List.length_append, List.length_replicate]; exact hroom, hcm, ?_, ?_⟩⟩, ⟨rfl, rfl, rfl, by simp, fun k hk => setRow_other w g k _ (by omega)⟩⟩
      · simp [Builtin.append_, run_underlying ht, run_underlying hti, sizeOf, typeInfo, zeroValue, hi, hz0, hz1, hz2, hw, hn0, hmb, hm0, hroom, asInt, asIntOf, Value.cells, zc, Addr.add_lit, hst]
      · simp only [List.size_toArray, List.length_append, List.length_take, List.length_drop, Array.length_toList, hzl]
        omega
      · rw [List.length_append, List.length_replicate, Nat.mul_one, tc_app, htake]
        exact List.take_left' (by rw [List.length_append, hzl, hxl])
    · have hgr := grown cap (by omega)
      have hfo := run_firstCells_some (P := P) w.drew 1 L.length ⟨g, 0, none⟩ L.length cap (tcells L) (by rw [hxl, Nat.mul_one]) (by simpa using World.ownsRow.cells hown (g := g) rfl)
      have h48' : ¬ (281474976710656 < Builtin.nextslicecap (L.length + m) cap * bytes) := by
        have := growslice_fits (need := L.length + m) (old := cap) (bytes := bytes) (by omega) hb1
        omega
      have h63' : ¬ (9223372036854775807 < ((L.length : Int) + (m : Int))) := by omega
      refine ⟨_, _, ?_, hgr.1, hgr.2⟩
      simp [Builtin.append_, run_underlying ht, run_underlying hti, sizeOf, typeInfo, zeroValue, hi, hz0, hz1, hz2, hw, hn0, hmb, hm0, hroom, h63', h48', Question.forced, newRow, grownCap, hfo, asInt, asIntOf, Value.cells, zc]
      congr 2
      apply Array.ext'
      simp [List.append_assoc]
/-- So many zero strings. -/
def zer (m : Nat) : List ByteArray := List.replicate m ByteArray.empty
theorem wp_appZ {P : Program} {t e ti : TypeId} {bytes : Nat} (hT : StrT P t e bytes) (hti : P.underlying ti = some (.int .i64)) {o : Oper} {a : Act} {w : World} {K : Act → World → Prop} {Q : Exit → Act → World → Prop} (s x : Operand)
    (ho : o.op = .call { callee := .builtin .append, args := #[s, x], argTypes := #[t, ti] })
    (base : Nat) (v : Value) (L : List ByteArray) (hs : a.eval s = v) (hown : OwnT e base v L w) (m : Nat) (hx : a.eval x = .int .i64 m) (hm : 0 < m) (hm2 : m ≤ 1000) (hlen : L.length ≤ 1000) (hby : bytes ≤ 16) (hbase : base ≤ w.heap.size)
    (h : ∀ v' w', OwnT e base v' (L ++ zer m) w' → Below base w w' → K (a.put o.dst v') w') : o.wp P a w K Q := by
  obtain ⟨v', w', hr, h2, h3⟩ := run_appZ hT hti o.type w base v L hown m hm hm2 hlen hby hbase
  unfold Oper.wp execOp
  simp only [ho, resolve, invoke, builtin, Sem.run_bind, Sem.run_pure, Result.andThen_ok, List.map_toArray, List.map_cons, List.map_nil, hs, hx, hr]
  exact h v' w' h2 h3
theorem wpList_appZ {P : Program} {t e ti : TypeId} {bytes : Nat} (hT : StrT P t e bytes) (hti : P.underlying ti = some (.int .i64)) {ops : Array Oper} {rest : List Oper} {o : Oper} {a : Act} {w : World} {Q : Exit → Act → World → Prop} (hgd : o.guard = none) (s x : Operand)
    (ho : o.op = .call { callee := .builtin .append, args := #[s, x], argTypes := #[t, ti] })
    (base : Nat) (v : Value) (L : List ByteArray) (hs : a.eval s = v) (hown : OwnT e base v L w) (m : Nat) (hx : a.eval x = .int .i64 m) (hm : 0 < m) (hm2 : m ≤ 1000) (hlen : L.length ≤ 1000) (hby : bytes ≤ 16) (hbase : base ≤ w.heap.size)
    (h : ∀ v' w', OwnT e base v' (L ++ zer m) w' → Below base w w' → wpList P ops Q rest (a.put o.dst v') w') : wpList P ops Q (o :: rest) a w :=
  wpList_plain hgd fun _ hK => wp_appZ hT hti s x ho base v L hs hown m hx hm hm2 hlen hby hbase fun v' w' h2 h3 => hK _ _ (h v' w' h2 h3)
end Go.Proofs.Ytoeephmdklmpfaa
