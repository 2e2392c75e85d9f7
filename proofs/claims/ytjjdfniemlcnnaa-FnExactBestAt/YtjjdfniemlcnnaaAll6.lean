/- What the specification's functions of chapter 1 answer, one contract each. -/
import Derived.Test.YtjjdfniemlcnnaaMemU
import Derived.Test.YtjjdfniemlcnnaaAll2
import Derived.Test.YtjjdfniemlcnnaaKit
import Derived.Test.YtjjdfniemlcnnaaAll1
/- Lists of offers that grow in place: what stays, and where they lie then. -/
namespace Go.Proofs.Ytjjdfniemlcnnaa
open Go.RowKit

theorem run_appU2 (ty : TypeId) (w : World) (base : Nat) (v : Value) (L : List Oe) (hown : OwnU base v L w) (sa : Option Addr) (M : List Oe) (c : Nat) (hM : SrcU sa M c w) (hlen : L.length + M.length ≤ 8589934593) (hbase : base ≤ w.heap.size) :
    ∃ v' w', (Builtin.append_ #[61, 61] ty #[v, .slice sa M.length c]).run Try.prog w = .ok v' w' ∧ OwnU base v' (L ++ M) w' ∧ Below base w w' ∧ w.grownBy w' v.ownBlock ∧ (v'.ownBlock = v.ownBlock ∨ v'.ownBlock = some w.heap.size) := by
  obtain ⟨i0, hi, hz0, hz1, hz2⟩ := info_partsU infoOffer
  rcases hM with ⟨hR, ⟨rfl, rfl, rfl⟩ | ⟨b, off, rfl⟩⟩
  · have hrun := run_append_owned_none (P := Try.prog) (w := w) base 61 ty 49 i0 7 Try.underlying61 hi v L.length (ucells L) hown
    exact ⟨v, w, hrun, by simpa using hown, Below.refl _ _, ⟨rfl, rfl, rfl, Nat.le_refl _, fun _ _ _ => rfl⟩, .inl rfl⟩
  · obtain ⟨v', w', hr, h2, h3, _, h5⟩ := run_append_own_at (P := Try.prog) w base 61 ty 49 i0 (.agg #[.int .i64 0, .int .i64 0, .slice none 0 0, .int .i64 0, .int .i64 0, .int .i64 0, .slice none 0 0]) 7 88 Try.underlying61 hi hz0 hz1 hz2 rfl (by decide) v L.length (ucells L) hown ⟨b, off, none⟩ M.length c (ucells M) (uc_len M) hR.cells (uc_oneCell M) (by unfold maxLen; omega) (by omega) hbase
    refine ⟨v', w', hr, ?_, grown_belowU hown h3 hbase, h3, h5⟩
    unfold OwnU
    rw [uc_app, List.length_append]
    exact h2
theorem step_appU2 {ops : Array Oper} {o : Oper} {a : Act} {w : World} {K : Act → World → Prop} {Q : Exit → Act → World → Prop} {E : Prop} (hgd : o.guard = none) (s x : Operand)
    (ho : o.op = .call { callee := .builtin .append, args := #[s, x], argTypes := #[61, 61] })
    (base : Nat) (v : Value) (L : List Oe) (hs : a.eval s = v) (hown : OwnU base v L w) (sa : Option Addr) (M : List Oe) (n c : Nat) (hx : a.eval x = .slice sa n c) (hn : n = M.length) (hM : SrcU sa M c w)
    (hlen : L.length + M.length ≤ 8589934593) (hbase : base ≤ w.heap.size)
    (h : ∀ v' w', OwnU base v' (L ++ M) w' → Below base w w' → w.grownBy w' v.ownBlock → (v'.ownBlock = v.ownBlock ∨ v'.ownBlock = some w.heap.size) → K (a.put o.dst v') w') :
    if Region.wanted o (yielded ops a.tmps) = true then Oper.wp Try.prog o a w K Q else E := by
  have hw : Region.wanted o (yielded ops a.tmps) = true := by simp [Region.wanted, hgd]
  rw [if_pos hw]
  subst hn
  obtain ⟨v', w', hr, h2, h3, h4, h5⟩ := run_appU2 o.type w base v L hown sa M c hM hlen hbase
  unfold Oper.wp execOp
  simp only [ho, resolve, invoke, builtin, Sem.run_bind, Sem.run_pure, Result.andThen_ok, List.map_toArray, List.map_cons, List.map_nil, hs, hx, hr]
  exact h v' w' h2 h3 h4 h5
theorem wpList_appU2 {ops : Array Oper} {rest : List Oper} {o : Oper} {a : Act} {w : World} {Q : Exit → Act → World → Prop} (hgd : o.guard = none) (s x : Operand)
    (ho : o.op = .call { callee := .builtin .append, args := #[s, x], argTypes := #[61, 61] })
    (base : Nat) (v : Value) (L : List Oe) (hs : a.eval s = v) (hown : OwnU base v L w) (sa : Option Addr) (M : List Oe) (n c : Nat) (hx : a.eval x = .slice sa n c) (hn : n = M.length) (hM : SrcU sa M c w)
    (hlen : L.length + M.length ≤ 8589934593) (hbase : base ≤ w.heap.size)
    (h : ∀ v' w', OwnU base v' (L ++ M) w' → Below base w w' → w.grownBy w' v.ownBlock → (v'.ownBlock = v.ownBlock ∨ v'.ownBlock = some w.heap.size) → wpList Try.prog ops Q rest (a.put o.dst v') w') : wpList Try.prog ops Q (o :: rest) a w := by
  refine wpList_plain hgd fun _ hK => ?_
  subst hn
  obtain ⟨v', w', hr, h2, h3, h4, h5⟩ := run_appU2 o.type w base v L hown sa M c hM hlen hbase
  unfold Oper.wp execOp
  simp only [ho, resolve, invoke, builtin, Sem.run_bind, Sem.run_pure, Result.andThen_ok, List.map_toArray, List.map_cons, List.map_nil, hs, hx, hr]
  exact hK _ _ (h v' w' h2 h3 h4 h5)
theorem ownU_only {w w' : World} {base c : Nat} {v : Value} {L : List Oe} (h : OwnU base v L w) (o : Only c w w') (hn : v.ownBlock ≠ some c) : OwnU base v L w' :=
  World.ownsRow.kept h (row := some c) ⟨o.1, o.2.1, o.2.2.1, o.2.2.2.1, fun i hi hne => o.2.2.2.2 i hi (fun e => hne (by rw [e]))⟩ (.inr hn)
theorem ownU_blk {w : World} {base : Nat} {v : Value} {L : List Oe} (h : OwnU base v L w) {g : Nat} (e : v.ownBlock = some g) : base ≤ g ∧ g < w.heap.size := World.ownsRow.lt h g e
/-- What grows changes no other block. -/
theorem Mut.grow8 {w w' : World} {b : Nat} {vs : List Value} {v : Value} (h : Mut w b vs) (k : w.grownBy w' v.ownBlock) (hn : v.ownBlock ≠ some b) : Mut w' b vs := by
  have hb := k.block b h.1 (fun e => hn e.symm)
  exact ⟨Nat.lt_of_lt_of_le h.1 k.size, fun i x hx => (World.cell?_of_block (w := w) hb).trans (h.2.1 i x hx), fun i hi => (World.frozen?_of_block (w := w) hb).trans (h.2.2 i hi)⟩
theorem OutInt.grow8 {w w' : World} {c n k : Nat} {f : Nat → Int} {v : Value} (h : OutInt c n k f w) (q : w.grownBy w' v.ownBlock) (hn : v.ownBlock ≠ some c) : OutInt c n k f w' := by
  have hb := q.block c h.1 (fun e => hn e.symm)
  refine ⟨Nat.lt_of_lt_of_le h.1 q.size, fun i hi => ?_⟩
  obtain ⟨⟨x, h0, hk⟩, g0⟩ := h.2 i hi
  exact ⟨⟨x, (World.cell?_of_block (w := w) hb).trans h0, hk⟩, (World.frozen?_of_block (w := w) hb).trans g0⟩
end Go.Proofs.Ytjjdfniemlcnnaa

namespace Go.Proofs.Ytjjdfniemlcnnaa
open Go.RowKit

set_option maxHeartbeats 400000 in
theorem s_in (n lo hi : Int) (w : World) :
    Calls Try.prog 27 #[.int .i64 n, .int .i64 lo, .int .i64 hi] w fun e w' => e = .returned (.bool (inB n lo hi)) ∧ w' = w := by
  by_cases h1 : lo ≤ n
  · by_cases h2 : n ≤ hi
    · rw [inB_t h1 h2]
      go_enter Try.func27, Try.ntmps27
      go_wp2
      go_ret
      exact ⟨rfl, rfl⟩
    · rw [inB_f2 h2]
      go_enter Try.func27, Try.ntmps27
      go_wp2
      go_ret
      exact ⟨rfl, rfl⟩
  · rw [inB_f1 h1]
    go_enter Try.func27, Try.ntmps27
    go_wp2
    go_ret
    exact ⟨rfl, rfl⟩

set_option maxHeartbeats 400000 in
theorem s_addr (n : Int) (w : World) :
    Calls Try.prog 60 #[.int .i64 n] w fun e w' => e = .returned (.bool (inB n 0 4294967295)) ∧ w' = w := by
  go_enter Try.func60, Try.ntmps60
  go_wp2_with (go_at_call 27; refine (s_in _ _ _ _).mono ?_; rintro e w' ⟨rfl, rfl⟩)
  go_ret
  exact ⟨rfl, rfl⟩

set_option maxHeartbeats 400000 in
theorem s_size (a l : Int) (w : World) (h0 : 0 ≤ l) (h1 : l ≤ 32) :
    Calls Try.prog 61 #[.agg #[.int .i64 a, .int .i64 l]] w fun e w' => e = .returned (.int .i64 (pw l)) ∧ Below w.heap.size w w' := by
  go_enter Try.func61, Try.ntmps61
  go_wp2
  go_ret
  exact ⟨ret_int (pw_wrap l h0), (Below.refl _ _).alloc (Nat.le_refl _) _⟩

set_option maxHeartbeats 800000 in
theorem s_good_in (a l : Int) (w : World) (hl0 : 0 ≤ l) (hl1 : l ≤ 32) (ha0 : 0 ≤ a) (ha1 : a ≤ 4294967295) :
    Calls Try.prog 33 #[.agg #[.int .i64 a, .int .i64 l]] w fun e w' => e = .returned (.bool (a % pw l == 0)) ∧ Below w.heap.size w w' := by
  have p1 := pw_pos l
  have p2 := pw_le l hl0
  have p5 : ¬ pw l = 0 := by omega
  have p6 : a.tmod (pw l) = a % pw l := Int.tmod_eq_emod_of_nonneg ha0
  have i1 := inB_t hl0 hl1
  have i2 := inB_t ha0 ha1
  go_enter Try.func33, Try.ntmps33
  go_wp2_with fail
  go_region_with (first
    | (go_at_call 27; refine (s_in _ _ _ _).mono ?_; rintro e w' ⟨rfl, rfl⟩)
    | (go_at_call 60; refine (s_addr _ _).mono ?_; rintro e w' ⟨rfl, rfl⟩)
    | (go_at_call 61; refine (s_size _ _ _ (by omega) (by omega)).mono ?_; rintro e w' ⟨rfl, hb⟩; obtain ⟨hc, hf⟩ := bcell hb))
  all_goals
    go_wp2
    go_ret
    exact ⟨rfl, ((Below.refl _ _).alloc (Nat.le_refl _) _).drew.trans (hb.mono (by simp))⟩

set_option maxHeartbeats 800000 in
theorem s_good_a (a l : Int) (w : World) (hl0 : 0 ≤ l) (hl1 : l ≤ 32) (ha : ¬ (0 ≤ a ∧ a ≤ 4294967295)) :
    Calls Try.prog 33 #[.agg #[.int .i64 a, .int .i64 l]] w fun e w' => e = .returned (.bool false) ∧ Below w.heap.size w w' := by
  have i1 := inB_t hl0 hl1
  have i2 : inB a 0 4294967295 = false := inB_n ha
  clear ha
  go_enter Try.func33, Try.ntmps33
  go_wp2_with fail
  go_quiet ((first | (go_at_call 27; exact Calls.quiet_of_same (s_in _ _ _ _)) | (go_at_call 60; exact Calls.quiet_of_same (s_addr _ _))))
  go_wp2
  go_ret
  exact ⟨rfl, below_drewN ((Below.refl _ _).alloc (Nat.le_refl _) _) _⟩

set_option maxHeartbeats 800000 in
theorem s_good_l (a l : Int) (w : World) (hl : ¬ (0 ≤ l ∧ l ≤ 32)) :
    Calls Try.prog 33 #[.agg #[.int .i64 a, .int .i64 l]] w fun e w' => e = .returned (.bool false) ∧ Below w.heap.size w w' := by
  have i1 : inB l 0 32 = false := inB_n hl
  clear hl
  go_enter Try.func33, Try.ntmps33
  go_wp2_with fail
  go_quiet ((go_at_call 27; exact Calls.quiet_of_same (s_in _ _ _ _)))
  go_wp2
  go_ret
  exact ⟨rfl, below_drewN ((Below.refl _ _).alloc (Nat.le_refl _) _) _⟩

theorem s_good (a l : Int) (w : World) :
    Calls Try.prog 33 #[.agg #[.int .i64 a, .int .i64 l]] w fun e w' => e = .returned (.bool (goodB a l)) ∧ Below w.heap.size w w' := by
  by_cases hl : 0 ≤ l ∧ l ≤ 32
  · by_cases ha : 0 ≤ a ∧ a ≤ 4294967295
    · rw [goodB_in hl.1 hl.2 ha.1 ha.2]
      exact s_good_in a l w hl.1 hl.2 ha.1 ha.2
    · rw [goodB_a ha]
      exact s_good_a a l w hl.1 hl.2 ha
  · rw [goodB_l hl]
    exact s_good_l a l w hl

end Go.Proofs.Ytjjdfniemlcnnaa
