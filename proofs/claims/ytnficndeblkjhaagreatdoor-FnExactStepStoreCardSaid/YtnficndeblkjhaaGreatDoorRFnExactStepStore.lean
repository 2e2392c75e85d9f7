/- The program does an op on a store as the specification does: for every store and every op in any memory, the two kinds of faults and the type of errors as the program's text lays them. -/
import Derived.Test.YtnficndeblkjhaaGreatDoorW16f
import Derived.Test.YtnficndeblkjhaaGreatDoorGrp21
import Derived.Test.YtnficndeblkjhaaGreatDoorTie
import Derived.Test.YtnficndeblkjhaaGreatDoorCards
import Derived.ProofKit
import Derived.OpenShut
import Derived.ShutString
import Derived.Lib.SmallJoins
import Derived.ChangeVars
import Derived.LaidLaws
import Derived.LaidHandle
import Derived.Stop.LaidTwo
import Derived.Stop.Joined
import Derived.SevenTiedAt
namespace Go.Proofs.YtnficndeblkjhaaGreatDoor
open Go.ChangeShapes Go.WideShapes Go.ChangeAt Go.RowKit Go.Joins
open Go.ChangeMaps (open_string shut_string)

namespace RFnExactStepStore
theorem own : ownKnob Tryz.prog.godebug = none := by kernel_rfl
theorem laidOut : laidOutB Tryz.prog = true := by kernel_rfl
theorem gT : Tryz.prog.globalNamed "errors.errorType" = some 1 := by kernel_rfl
theorem gL : Tryz.prog.globalNamed "loop.example/g00344/impl.errLapsed" = some 0 := by kernel_rfl
theorem gR : Tryz.prog.globalNamed "loop.example/g00344/impl.errRefused" = some 2 := by kernel_rfl
theorem gLt : (Tryz.prog.globals[0]?).map (·.type) = some 67 := by kernel_rfl
theorem gRt : (Tryz.prog.globals[2]?).map (·.type) = some 67 := by kernel_rfl
theorem rt : (Tryz.prog.cutTypes.find? (·.1 == "internal/reflectlite.rtype")).map (·.2) = some 129 := by kernel_rfl
theorem oneRow : ((List.range Tryz.prog.types.size).filter fun t => Tryz.prog.rowNamed t [101, 114, 114, 111, 114]) = [67] := by kernel_rfl
theorem star : "*" ++ "errors.errorString" = "*errors.errorString" := by decide
theorem rowP (u : TypeId) (h : Tryz.prog.typeName? 3 u = some "*errors.errorString") : u = 173 :=
  typeName_ptr_named (nm := "errors.errorString") (by rw [star]; kernel_rfl) (by kernel_rfl) (by decide) u (by rw [star]; exact h)
theorem cES : Tryz.prog.cellsOf 194 = 1 := by kernel_rfl
theorem cS : Tryz.prog.cellsOf 9 = 1 := by kernel_rfl
theorem var_below {P : Program} {W W' : World} {n : String} {cs : Array Value} (h : W.var? P n = some cs) (b : Below W.heap.size W W') : W'.var? P n = some cs := by
  unfold World.var? at h ⊢
  cases hg : P.globalNamed n with
  | none => simp [hg] at h
  | some g =>
    simp only [hg, Option.bind_some] at h ⊢
    have hlt : g < W.heap.size := by
      rcases Nat.lt_or_ge g W.heap.size with h' | h'
      · exact h'
      · simp [Array.getElem?_eq_none h'] at h
    rw [b.block g hlt]
    exact h
/-- What the listed variables give a walk. -/
theorem gw_of_laid {W : World} (h : laidMetH Tryz.prog Rows.fnExactStepStoreRow.laid W) : ∃ gl gr : Addr, GW gl gr W ∧ W.var? Tryz.prog "loop.example/g00344/impl.errRefused" = some #[.iface 173 (.pointer (some gr))] ∧ W.var? Tryz.prog "loop.example/g00344/impl.errLapsed" = some #[.iface 173 (.pointer (some gl))] := by
  have h' : laidMet Tryz.prog [("loop.example/g00344/impl.errRefused", Rows.laid_loop_example_g00344_impl_errRefused), ("loop.example/g00344/impl.errLapsed", Rows.laid_loop_example_g00344_impl_errLapsed)] W ∧ handlesMet Tryz.prog [("errors.errorType", Rows.laid_errors_errorType)] W := h
  obtain ⟨name, u, ty, e1, e2, e3, e4, e5⟩ := h'.2 _ (List.mem_singleton.2 rfl)
  have en : name = [101, 114, 114, 111, 114] := (Option.some.inj e1).symm
  subst en
  obtain rfl := Option.some.inj (rt.symm.trans e2)
  have hm : ty ∈ (List.range Tryz.prog.types.size).filter fun t => Tryz.prog.rowNamed t [101, 114, 114, 111, 114] := List.mem_filter.2 ⟨List.mem_range.2 e3, e4⟩
  rw [oneRow] at hm
  obtain rfl := List.mem_singleton.1 hm
  have hh : typeHandle Tryz.prog 67 = .pointer (some ⟨3, 67, none⟩) := by kernel_rfl
  rw [hh] at e5
  obtain ⟨a0, a1, s0, s1, c0, c1, t0, t1, hv0, hv1, _, _, _, _, _, _, hne, hb0, hb1⟩ := laid_sentinels2 h'.1 gR gRt gL gLt Tryz.underlying67 rowP Tryz.underlying173 Tryz.underlying194 rfl rfl Tryz.underlying9 cES cS
  have k2 := World.var?_cell gR hv0 0
  refine ⟨a1, a0, ⟨by simpa using World.var?_cell gL hv1 0, by simpa using World.var?_cell gT e5 0, by simpa using k2, fun e => hne e.symm, ⟨c1, t1, hb1⟩, ⟨c0, t0, hb0⟩, ?_⟩, hv0, hv1⟩
  rcases Nat.lt_or_ge 2 W.heap.size with q | q
  · exact q
  · simp [World.cell?, Array.getElem?_eq_none q] at k2
abbrev sR : ByteArray := { data := #[110, 111, 116, 104, 105, 110, 103, 32, 99, 97, 110, 32, 98, 101, 32, 100, 111, 110, 101] }
abbrev sL : ByteArray := { data := #[110, 111, 98, 111, 100, 121, 32, 99, 111, 110, 102, 105, 114, 109, 101, 100, 32, 105, 116, 32, 105, 110, 32, 116, 105, 109, 101] }
/-- So many blocks has the settled world. -/
noncomputable def low : Nat := (World.holding Tryz.prog default ⟨#[], #[], []⟩).heap.size
/-- A world that meets the condition: the settled one, the three variables laid. -/
noncomputable def laidWorld (os : Os) : World :=
  let w0 := World.holding Tryz.prog os ⟨#[.cells #[.string sR] 194, .cells #[.string sL] 194], #[], []⟩
  { w0 with heap := ((w0.heap.modify 0 fun
      | .cells _ t frozen => .cells #[.iface 173 (.pointer (some ⟨low + 1, 0, none⟩))] t frozen
      | o => o).modify 1 fun
      | .cells _ t frozen => .cells #[.iface 129 (.agg #[.pointer (some ⟨3, 67, none⟩)])] t frozen
      | o => o).modify 2 fun
      | .cells _ t frozen => .cells #[.iface 173 (.pointer (some ⟨low, 0, none⟩))] t frozen
      | o => o }
theorem laidWorld_met (os : Os) (args : Array Value) : laidMetH Tryz.prog Rows.fnExactStepStoreRow.laid ((laidWorld os).forCall (fun _ _ => 0) ⟨#[], args, []⟩).memory :=
  laidMetH_of_parts (laidMet_of_run (ps := [.cell 2 0, .cell low 0, .cell 0 0, .cell (low + 1) 0]) 8 (by kernel_rfl) (by kernel_rfl) (by kernel_rfl)) (by kernel_rfl)

theorem one_below {H : Type} {enc : TypeId × Value → H} {W W' : World} {x : Addr} {fuel : Nat} {cs : Array Value} {d : DataW H} {p : List MemPlace} (hc : cs = #[.iface 173 (.pointer (some x))]) (h : DataW.trod enc Tryz.prog W 0 (fun _ => true) true fuel 67 cs.toList = some (d, p)) (bel : Below W.heap.size W W') : ∃ m, DataW.trod enc Tryz.prog W' 0 (fun b => decide (b < W.heap.size)) true m 67 cs.toList = some (d, p) := by
  subst hc
  have kk : DataW.Trod enc Tryz.prog W 0 (fun _ => true) true 67 (.iface 173 (.pointer (some x))) d p := ⟨fuel, by simpa [Value.cells] using h⟩
  have lt : ∀ y ∈ p, y.block < W.heap.size := DataW.trod_lt fuel _ _ _ h
  obtain ⟨m, hm⟩ := Below.trod laidOut (by kernel_rfl) (of_decide_eq_true (by kernel_rfl)) kk bel lt
  exact ⟨m, by simpa [Value.cells] using hm⟩
theorem vars_below {H : Type} {enc : TypeId × Value → H} {W : World} {gl gr : Addr} {gs : List (DataW H)} {q : List MemPlace} (hvR : W.var? Tryz.prog "loop.example/g00344/impl.errRefused" = some #[.iface 173 (.pointer (some gr))]) (hvL : W.var? Tryz.prog "loop.example/g00344/impl.errLapsed" = some #[.iface 173 (.pointer (some gl))])
    (hV : DataW.TrodVars enc Tryz.prog W (fun _ => true) ["loop.example/g00344/impl.errRefused", "loop.example/g00344/impl.errLapsed"] gs q) : ∃ g1 g2, gs = [g1, g2] ∧ ∀ W', Below W.heap.size W W' → DataW.TrodVars enc Tryz.prog W' (fun b => decide (b < W.heap.size)) ["loop.example/g00344/impl.errRefused", "loop.example/g00344/impl.errLapsed"] [g1, g2] q := by
  rcases gs with _ | ⟨d, _ | ⟨d', r⟩⟩
  · exact absurd hV (by intro h; cases h)
  · obtain ⟨g, t, cs, fuel, p, q', z1, z2, z3, z4, z5, z6⟩ := hV
    exact absurd z5 (by intro h; cases h)
  · obtain ⟨g, t, cs, fuel, p, q', z1, z2, z3, z4, ⟨g', t', cs', fuel', p', q'', y1, y2, y3, y4, y5, y6⟩, z6⟩ := hV
    obtain ⟨rfl, rfl⟩ := trodVars_none y5
    obtain rfl := Option.some.inj (gR.symm.trans z1)
    obtain rfl := Option.some.inj (gL.symm.trans y1)
    obtain rfl := Option.some.inj (gRt.symm.trans z2)
    obtain rfl := Option.some.inj (gLt.symm.trans y2)
    refine ⟨d, d', rfl, fun W' bel => ?_⟩
    obtain ⟨m, hm⟩ := one_below (Option.some.inj (hvR.symm.trans z3)).symm z4 bel
    obtain ⟨m', hm'⟩ := one_below (Option.some.inj (hvL.symm.trans y3)).symm y4 bel
    exact ⟨_, _, cs, m, p, q', gR, gRt, var_below z3 bel, hm, ⟨_, _, cs', m', p', [], gL, gLt, var_below y3 bel, hm', rfl, y6⟩, z6⟩

set_option maxRecDepth 100000 in
theorem lifted (os : Os) (started : os.Started) (H : Type) (enc : TypeId × Value → H) :
    ReturnsInHanded {} Tryz.checked os 3 .any (fun w args => (Rows.fnExactStepStoreSpec.pre enc Tryz.prog Tryz.f3 [] false w args ∧ laidMetH Tryz.prog Rows.fnExactStepStoreRow.laid w) ∧ sizedMet enc Tryz.prog Tryz.f3 (OpenSpec.ofChange Rows.fnExactStepStoreSpec) false w args)
      (Rows.fnExactStepStoreSpec.post enc Tryz.prog Tryz.f3 false true false false) := by
  refine returnsInHanded_of_change_and (C := Tryz.checked) (X := fun w _ => laidMetH Tryz.prog Rows.fnExactStepStoreRow.laid w) (fun _ _ _ hh h => h.of_heap hh) own started (by kernel_rfl) Tryz.func3
    (ChangeSpec.witness_at (enc := enc) (C := Tryz.checked) (os := os) (X := fun w _ => laidMetH Tryz.prog Rows.fnExactStepStoreRow.laid w) false (laidWorld os) #[.agg #[.slice none 0 0, .slice none 0 0, .slice none 0 0, .int .i64 0], .agg #[.int .i64 0, .slice none 0 0, .string ByteArray.empty, .int .i64 0]] 8 rfl (by kernel_rfl) (by kernel_rfl) (by kernel_rfl) (by kernel_rfl) (by kernel_rfl) (laidWorld_met os _)) ?_
  intro W base args ds gs before hval0 hW _ _ hL _
  have hval : ∀ (j : Nat) t v, Tryz.f3.params[j]? = some t → args[j]? = some v → Value.okWide Tryz.prog W .any base t v := hval0
  have hW' := hW
  obtain ⟨p, q, hA0, hV0, rfl, hfz, hnd⟩ := hW
  have hA : DataW.TrodAll enc Tryz.prog W 0 (fun _ => true) true Tryz.f3.params.toList args.toList ds p := hA0
  have hV : DataW.TrodVars enc Tryz.prog W (fun _ => true) ["loop.example/g00344/impl.errRefused", "loop.example/g00344/impl.errLapsed"] gs q := hV0
  rw [Tryz.params3] at hA hval
  obtain ⟨v0, vs0, d0, ds0, p0, q0, hargs, rfl, rfl, h0, r0⟩ := trodAll_cons hA
  obtain ⟨v1, vs1, d1, ds1, p1, q1, hargs1, rfl, rfl, h1, r1⟩ := trodAll_cons r0
  obtain ⟨rfl, rfl, rfl⟩ := trodAll_nil r1
  obtain rfl : args = #[v0, v1] := by cases args; simp_all
  obtain ⟨gl, gr, hG, hvR, hvL⟩ := gw_of_laid hL
  have k0 := h0
  have k1 := h1
  have lt0 : ∀ x ∈ p0, x.block < W.heap.size := by obtain ⟨m, hm⟩ := k0; exact DataW.trod_lt m _ _ _ hm
  have lt1 : ∀ x ∈ p1, x.block < W.heap.size := by obtain ⟨m, hm⟩ := k1; exact DataW.trod_lt m _ _ _ hm
  obtain ⟨s0, hX0, hR0⟩ : ∃ s, MaxSt s ∧ RowSt false v0 s W := by
    obtain ⟨cs, rfl, hsz⟩ := okWide_struct Tryz.underlying25 (hval 0 25 v0 rfl rfl)
    have h4 : Tryz.prog.cellsOf 25 = 4 := by kernel_rfl
    obtain ⟨q0, q1, q2, q3, rfl⟩ := arr4s (hsz.trans h4)
    obtain ⟨fuel, hf⟩ := h0
    exact open_store (vs := [q0, q1, q2, q3]) rfl (by simpa [Value.cells] using hf)
  obtain ⟨k, N, a, n, c, f, u, rfl, hl, hX1, hs, hR1⟩ : ∃ (k N : Int) (a : Option Addr) (n c : Nat) (f : Nat → ByteArray) (u : ByteArray), v1 = .agg #[.int .i64 k, .slice a n c, .string u, .int .i64 N] ∧ n ≤ maxLen ∧ (∀ i, i < n → (f i).size ≤ maxLen) ∧ u.size ≤ maxLen ∧ RowStr a n f W := by
    obtain ⟨cs, rfl, hsz⟩ := okWide_struct Tryz.underlying28 (hval 1 28 v1 rfl rfl)
    have h4 : Tryz.prog.cellsOf 28 = 4 := by kernel_rfl
    obtain ⟨q0, q1, q2, q3, rfl⟩ := arr4s (hsz.trans h4)
    obtain ⟨fuel, hf⟩ := h1
    obtain ⟨k, N, a, n, c, f, u, e, z⟩ := open_op (vs := [q0, q1, q2, q3]) rfl (by simpa [Value.cells] using hf)
    simp only [List.cons.injEq, and_true] at e
    obtain ⟨rfl, rfl, rfl, rfl⟩ := e
    exact ⟨k, N, a, n, c, f, u, rfl, z⟩
  obtain ⟨g1, g2, rfl, hV2⟩ := vars_below hvR hvL hV
  clear hA0 hval0 hV0 hV
  refine (w_stepStore v0 s0 k N a n c f u gl gr W hX0 hR0 ⟨hl, hX1, hs⟩ hR1 hG).mono fun e W' ⟨he, bel⟩ => ?_
  subst he
  exact ⟨_, rfl, _, _, _, [], _, _, hW', trodAll_mk1 (shut_bool Tryz.underlying4 _), (trodAll_cons_mk (Below.trod laidOut (by kernel_rfl) (of_decide_eq_true (by kernel_rfl)) k0 bel lt0) (trodAll_cons_mk (Below.trod laidOut (by kernel_rfl) (of_decide_eq_true (by kernel_rfl)) k1 bel lt1) trodAll_mk0)), hV2 W' bel, bel.frame _, fun h => by cases h⟩

end RFnExactStepStore

theorem fnExactStepStore_row : Rows.FnExactStepStoreSaid :=
  OpenClaim.holds_of_wide 3 Tryz.f3 rfl rfl rfl rfl rfl rfl rfl ⟨rfl, rfl, rfl, rfl, rfl⟩ rfl rfl rfl rfl rfl (by kernel_rfl) Tryz.func3 (by kernel_rfl)
    (of_decide_eq_true (by kernel_rfl)) (by unfold Func.isWrapper; first | (rw [if_pos (by decide +kernel)]; kernel_rfl) | (rw [if_neg (by decide +kernel)]; exact ⟨rfl, rfl⟩))
    (fun os started H enc _ => RFnExactStepStore.lifted os started H enc)

theorem fnExactStepStore_holds : Rows.FnExactStepStoreCardSaid :=
  Claim7.holds_tied_plain_at .later [] [.handle, .sentinel, .sentinel] true (true, "553f6f22bb082f4798a003b447929598819efb35f068a2965d75011d6b6fa136") true
    fnExactStepStore_row (fun _ h => by cases h) (by kernel_rfl) (fun _ h => by cases h) fnExactStepStore_row_tie rfl ⟨rfl, rfl⟩ (by kernel_rfl) rfl
    (fun f fn hf hfn => by
      obtain rfl : f = 3 := Option.some.inj ((show Tryz.prog.funcNamed "loop.example/g00344/laws.FnExactStepStore" = some 3 by kernel_rfl).symm.trans hf) |>.symm
      obtain rfl : fn = Tryz.f3 := (Option.some.inj (Tryz.func3.symm.trans hfn)).symm
      exact ⟨by kernel_rfl, fun j t ht => by
        rw [Tryz.params3] at ht
        have h3 : t = 25 ∨ t = 28 := by
          rcases j with _ | _ | j
          · exact .inl (by simpa using ht.symm)
          · exact .inr (by simpa using ht.symm)
          · simp at ht
        rcases h3 with rfl | rfl
        · exact (show Tryz.prog.wantsStandIn 25 = false by kernel_rfl)
        · exact (show Tryz.prog.wantsStandIn 28 = false by kernel_rfl)⟩)
    (by kernel_rfl)
#print axioms fnExactStepStore_holds
end Go.Proofs.YtnficndeblkjhaaGreatDoor
