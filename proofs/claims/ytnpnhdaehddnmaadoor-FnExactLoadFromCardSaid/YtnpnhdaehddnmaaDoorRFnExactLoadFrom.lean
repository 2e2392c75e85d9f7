/- LoadFrom: the row and its card. -/
import Derived.Test.YtnpnhdaehddnmaaDoorW17l
import Derived.Test.YtnpnhdaehddnmaaDoorOpenDisk
import Derived.ProofKit
import Derived.OpenShut
import Derived.ShutString
import Derived.Lib.SmallJoins
import Derived.Test.YtnpnhdaehddnmaaDoorTie
import Derived.Test.YtnpnhdaehddnmaaDoorCards
import Derived.ChangeVars
import Derived.LaidLaws
import Derived.LaidHandle
import Derived.Stop.LaidErr
import Derived.Stop.Joined
import Derived.SevenTiedAt
namespace Go.Proofs.YtnpnhdaehddnmaaDoor
open Go.ChangeShapes Go.WideShapes Go.ChangeAt Go.RowKit Go.Joins
open Go.ChangeMaps (open_string shut_string)

namespace RFnExactLoadFrom
theorem own : ownKnob Tryd.prog.godebug = none := by kernel_rfl
theorem laidOut : laidOutB Tryd.prog = true := by kernel_rfl

theorem gV : Tryd.prog.globalNamed "loop.example/g00344/impl.errGaveUp" = some 0 := by kernel_rfl
theorem gVt : (Tryd.prog.globals[0]?).map (·.type) = some 76 := by kernel_rfl
theorem star : "*" ++ "errors.errorString" = "*errors.errorString" := by decide
theorem rowP (u : TypeId) (h : Tryd.prog.typeName? 3 u = some "*errors.errorString") : u = 93 :=
  typeName_ptr_named (nm := "errors.errorString") (by rw [star]; kernel_rfl) (by kernel_rfl) (by decide) u (by rw [star]; exact h)
theorem cES : Tryd.prog.cellsOf 110 = 1 := by kernel_rfl
theorem cS : Tryd.prog.cellsOf 9 = 1 := by kernel_rfl
theorem var_below {P : Program} {W W' : World} {n : String} {cs : Array Value} (h : W.var? P n = some cs) (b : Below W.heap.size W W') : W'.var? P n = some cs := by
  unfold World.var? at h ⊢
  cases hg : P.globalNamed n with
  | none => simp [hg] at h
  | some g =>
    simp only [hg, Option.bind_some] at h ⊢
    have hlt : g < W.heap.size := by
      rcases Nat.lt_or_ge g W.heap.size with h' | h'
      · exact h'
      · simp [Array.getElem?_eq_none h'] at h
    rw [b.block g hlt]
    exact h
/-- What the listed variable gives a walk. -/
theorem gu_of_laid {W : World} (h : laidMetH Tryd.prog Rows.fnExactLoadFromRow.laid W) : ∃ gp : Addr, GU gp W ∧ W.var? Tryd.prog "loop.example/g00344/impl.errGaveUp" = some #[.iface 93 (.pointer (some gp))] := by
  have h' : laidMet Tryd.prog [("loop.example/g00344/impl.errGaveUp", Rows.laid_loop_example_g00344_impl_errGaveUp)] W := h
  obtain ⟨gp, s, hv, _⟩ := laid_sentinel h' gV gVt Tryd.underlying76 rowP Tryd.underlying93 Tryd.underlying110 rfl rfl Tryd.underlying9 cES cS
  have k := World.var?_cell gV hv 0
  refine ⟨gp, ⟨by simpa using k, ?_⟩, hv⟩
  rcases Nat.lt_or_ge 0 W.heap.size with q | q
  · exact q
  · simp [World.cell?, Array.getElem?_eq_none q] at k
abbrev sV : ByteArray := { data := #[116, 104, 101, 32, 106, 111, 117, 114, 110, 97, 108, 32, 103, 97, 118, 101, 32, 117, 112] }
/-- So many blocks has the settled world. -/
noncomputable def low : Nat := (World.holding Tryd.prog default ⟨#[], #[], []⟩).heap.size
/-- A world that meets the condition: the settled one, the variable laid. -/
noncomputable def laidWorld (os : Os) : World :=
  let w0 := World.holding Tryd.prog os ⟨#[.cells #[.string sV] 110], #[], []⟩
  { w0 with heap := w0.heap.modify 0 fun
      | .cells _ t frozen => .cells #[.iface 93 (.pointer (some ⟨low, 0, none⟩))] t frozen
      | o => o }
theorem laidWorld_met (os : Os) (args : Array Value) : laidMetH Tryd.prog Rows.fnExactLoadFromRow.laid ((laidWorld os).forCall (fun _ _ => 0) ⟨#[], args, []⟩).memory :=
  laidMet_of_run (ps := [.cell 0 0, .cell low 0]) 8 (by kernel_rfl) (by kernel_rfl) (by kernel_rfl)
theorem one_below {H : Type} {enc : TypeId × Value → H} {W W' : World} {x : Addr} {fuel : Nat} {cs : Array Value} {d : DataW H} {p : List MemPlace} (hc : cs = #[.iface 93 (.pointer (some x))]) (h : DataW.trod enc Tryd.prog W 0 (fun _ => true) true fuel 76 cs.toList = some (d, p)) (bel : Below W.heap.size W W') : ∃ m, DataW.trod enc Tryd.prog W' 0 (fun b => decide (b < W.heap.size)) true m 76 cs.toList = some (d, p) := by
  subst hc
  have kk : DataW.Trod enc Tryd.prog W 0 (fun _ => true) true 76 (.iface 93 (.pointer (some x))) d p := ⟨fuel, by simpa [Value.cells] using h⟩
  have lt : ∀ y ∈ p, y.block < W.heap.size := DataW.trod_lt fuel _ _ _ h
  obtain ⟨m, hm⟩ := Below.trod laidOut (by kernel_rfl) (of_decide_eq_true (by kernel_rfl)) kk bel lt
  exact ⟨m, by simpa [Value.cells] using hm⟩
theorem vars_below {H : Type} {enc : TypeId × Value → H} {W : World} {gp : Addr} {gs : List (DataW H)} {q : List MemPlace} (hv : W.var? Tryd.prog "loop.example/g00344/impl.errGaveUp" = some #[.iface 93 (.pointer (some gp))])
    (hV : DataW.TrodVars enc Tryd.prog W (fun _ => true) ["loop.example/g00344/impl.errGaveUp"] gs q) : ∃ g1, gs = [g1] ∧ ∀ W', Below W.heap.size W W' → DataW.TrodVars enc Tryd.prog W' (fun b => decide (b < W.heap.size)) ["loop.example/g00344/impl.errGaveUp"] [g1] q := by
  rcases gs with _ | ⟨d, r⟩
  · exact absurd hV (by intro h; cases h)
  · obtain ⟨g, t, cs, fuel, p, q', z1, z2, z3, z4, z5, z6⟩ := hV
    obtain ⟨rfl, rfl⟩ := trodVars_none z5
    obtain rfl := Option.some.inj (gV.symm.trans z1)
    obtain rfl := Option.some.inj (gVt.symm.trans z2)
    refine ⟨d, rfl, fun W' bel => ?_⟩
    obtain ⟨m, hm⟩ := one_below (Option.some.inj (hv.symm.trans z3)).symm z4 bel
    exact ⟨_, _, cs, m, p, [], gV, gVt, var_below z3 bel, hm, rfl, z6⟩

set_option maxRecDepth 100000 in
theorem lifted (os : Os) (started : os.Started) (H : Type) (enc : TypeId × Value → H) :
    ReturnsInHanded {} Tryd.checked os 3 .any (fun w args => (Rows.fnExactLoadFromSpec.pre enc Tryd.prog Tryd.f3 [] false w args ∧ laidMetH Tryd.prog Rows.fnExactLoadFromRow.laid w) ∧ sizedMet enc Tryd.prog Tryd.f3 (OpenSpec.ofChange Rows.fnExactLoadFromSpec) false w args)
      (Rows.fnExactLoadFromSpec.post enc Tryd.prog Tryd.f3 false true false false) := by
  refine returnsInHanded_of_change_and (C := Tryd.checked) (X := fun w _ => laidMetH Tryd.prog Rows.fnExactLoadFromRow.laid w) (fun _ _ _ hh h => h.of_heap hh) own started (by kernel_rfl) Tryd.func3
    (ChangeSpec.witness_at (enc := enc) (C := Tryd.checked) (os := os) (X := fun w _ => laidMetH Tryd.prog Rows.fnExactLoadFromRow.laid w) false (laidWorld os) #[.agg #[.slice none 0 0, .slice none 0 0]] 8 rfl (by kernel_rfl) (by kernel_rfl) (by kernel_rfl) (by kernel_rfl) (by kernel_rfl) (laidWorld_met os _)) ?_
  intro W base args ds gs before hval0 hW _ _ hL _
  have hval : ∀ (j : Nat) t v, Tryd.f3.params[j]? = some t → args[j]? = some v → Value.okWide Tryd.prog W .any base t v := hval0
  have hW' := hW
  obtain ⟨p, q, hA0, hV0, rfl, hfz, hnd⟩ := hW
  have hA : DataW.TrodAll enc Tryd.prog W 0 (fun _ => true) true Tryd.f3.params.toList args.toList ds p := hA0
  have hV : DataW.TrodVars enc Tryd.prog W (fun _ => true) ["loop.example/g00344/impl.errGaveUp"] gs q := hV0
  rw [Tryd.params3] at hA hval
  obtain ⟨v0, vs0, d0, ds0, p0, q0, hargs, rfl, rfl, h0, r0⟩ := trodAll_cons hA
  obtain ⟨rfl, rfl, rfl⟩ := trodAll_nil r0
  obtain rfl : args = #[v0] := by cases args; simp_all
  obtain ⟨gp, hG, hv⟩ := gu_of_laid hL
  obtain ⟨g1, rfl, hV2⟩ := vars_below hv hV
  have k0 := h0
  have lt0 : ∀ x ∈ p0, x.block < W.heap.size := by obtain ⟨m, hm⟩ := k0; exact DataW.trod_lt m _ _ _ hm
  obtain ⟨a0, b0, c0, e0, d0k, rfl, hn0, hm0, hf0, hD0, hR0⟩ : ∃ (a0 b0 : Option Addr) (c0 e0 : Nat) (d0k : Dk), v0 = .agg #[.slice a0 d0k.n c0, .slice b0 d0k.m e0] ∧ d0k.n ≤ maxLen ∧ d0k.m ≤ maxLen ∧ (∀ i, i < d0k.n → (d0k.f i).size ≤ maxLen) ∧ (∀ i, i < d0k.m → (d0k.D i).size ≤ maxLen) ∧ RowD a0 b0 d0k W := by
    obtain ⟨cs, rfl, hsz⟩ := okWide_struct Tryd.underlying25 (hval 0 25 v0 rfl rfl)
    have h2 : Tryd.prog.cellsOf 25 = 2 := by kernel_rfl
    obtain ⟨q0, q1, rfl⟩ := arr2d (hsz.trans h2)
    obtain ⟨fuel, hf⟩ := h0
    obtain ⟨a0, b0, c0, e0, d0k, hvs, hh⟩ := open_disk (vs := [q0, q1]) rfl (by simpa [Value.cells] using hf)
    simp only [List.cons.injEq, and_true] at hvs
    obtain ⟨rfl, rfl⟩ := hvs
    exact ⟨a0, b0, c0, e0, d0k, rfl, hh⟩
  clear hA0 hval0 hV0 hV
  refine (w_loadFrom a0 b0 c0 e0 d0k gp W hn0 hm0 hf0 hD0 hR0 hG).mono fun e W' ⟨he, bel⟩ => ?_
  subst he
  exact ⟨_, rfl, _, _, _, [], _, _, hW', trodAll_mk1 (shut_bool Tryd.underlying4 _), (trodAll_cons_mk (Below.trod laidOut (by kernel_rfl) (of_decide_eq_true (by kernel_rfl)) k0 bel lt0) trodAll_mk0), hV2 W' bel, bel.frame _, fun h => by cases h⟩

end RFnExactLoadFrom

theorem fnExactLoadFrom_row : Rows.FnExactLoadFromSaid :=
  OpenClaim.holds_of_wide 3 Tryd.f3 rfl rfl rfl rfl rfl rfl rfl ⟨rfl, rfl, rfl, rfl, rfl⟩ rfl rfl rfl rfl rfl (by kernel_rfl) Tryd.func3 (by kernel_rfl)
    (of_decide_eq_true (by kernel_rfl)) (by unfold Func.isWrapper; first | (rw [if_pos (by decide +kernel)]; kernel_rfl) | (rw [if_neg (by decide +kernel)]; exact ⟨rfl, rfl⟩))
    (fun os started H enc _ => RFnExactLoadFrom.lifted os started H enc)

theorem fnExactLoadFrom_holds : Rows.FnExactLoadFromCardSaid :=
  Claim7.holds_tied_plain_at .later [] [.sentinel] true (true, "1508d6191b0f589f5ed4ae84947a5e85041d33416635eff56b76b4986f04bca2") true
    fnExactLoadFrom_row (fun _ h => by cases h) (by kernel_rfl) (fun _ h => by cases h) fnExactLoadFrom_row_tie rfl ⟨rfl, rfl⟩ (by kernel_rfl) rfl
    (fun f fn hf hfn => by
      obtain rfl : f = 3 := Option.some.inj ((show Tryd.prog.funcNamed "loop.example/g00344/laws.FnExactLoadFrom" = some 3 by kernel_rfl).symm.trans hf) |>.symm
      obtain rfl : fn = Tryd.f3 := (Option.some.inj (Tryd.func3.symm.trans hfn)).symm
      exact ⟨by kernel_rfl, fun j t ht => by
        rw [Tryd.params3] at ht
        have h3 : t = 25 := by
          rcases j with _ | j
          · exact by simpa using ht.symm
          · simp at ht
        rcases h3 with rfl
        · exact (show Tryd.prog.wantsStandIn 25 = false by kernel_rfl)⟩)
    (by kernel_rfl)
#print axioms fnExactLoadFrom_holds
end Go.Proofs.YtnpnhdaehddnmaaDoor
