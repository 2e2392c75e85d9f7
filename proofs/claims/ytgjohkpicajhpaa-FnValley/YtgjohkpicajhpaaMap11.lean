/- A map whose keys are pairs of numbers: what it holds, key by key. -/
import Derived.Test.YtgjohkpicajhpaaPlain11
import Derived.Test.YtgjohkpicajhpaaW0
import Derived.Maps.OwnSet
import Derived.DeepKeys4
namespace Go.Proofs.Ytgjohkpicajhpaa
open Go.RowKit Go.Maps

def W64 (x : Int) : Prop := (Lit.int .i64 x).wf = true
set_option maxRecDepth 100000 in
theorem w64_of {x : Int} (h0 : -9223372036854775808 ≤ x) (h1 : x ≤ 9223372036854775807) : W64 x := WalkArith.wf_i64 (by omega)
set_option maxRecDepth 100000 in
theorem wide11 : (match Try.prog.underlying 55 with | some (.array _ _) | some (.struct _) => true | _ => false) = true := by kernel_rfl
set_option maxRecDepth 100000 in
theorem law11 : Keyed Try.prog 55 := Keyed.of_law (deep_law (m := 2) (by omega) (by kernel_rfl) (by kernel_rfl) wide11)
set_option maxRecDepth 100000 in
theorem zero11 (w : World) : (zeroValue 3).run Try.prog w = .ok (.int .i64 0) w := by kernel_rfl
set_option maxRecDepth 100000 in
theorem keyT11 : Try.prog.keyType 55 = true := by kernel_rfl
set_option maxRecDepth 100000 in
theorem cellsT11 : Try.prog.cellsOf 55 = 2 := by kernel_rfl
set_option maxRecDepth 100000 in
theorem cellsI11 : Try.prog.cellsOf 3 = 1 := by kernel_rfl
/-- The key of two numbers. -/
def tieV (x y : Int) : Value := .agg #[.int .i64 x, .int .i64 y]
noncomputable def kl (x y : Int) : Lit := (keyOf Try.prog 55 (tieV x y)).getD (.bool true)
set_option maxRecDepth 100000 in
theorem size11 : ∃ d, Try.prog.types.size = d + 1 := ⟨Try.prog.types.size - 1, by
  have h : decide (0 < Try.prog.types.size) = true := by kernel_rfl
  have := of_decide_eq_true h
  omega⟩
set_option maxRecDepth 100000 in
theorem lits11 (d : Nat) {x y : Int} (hx : W64 x) (hy : W64 y) : Try.prog.keyLits (d + 2) 55 [.int .i64 x, .int .i64 y] = some [.int .i64 x, .int .i64 y] := by
  unfold W64 at hx hy
  have e1 : ∀ z : Int, (Lit.int .i64 z).wf = true → Try.prog.keyLits (d + 1) 3 [.int .i64 z] = some [.int .i64 z] := by
    intro z hz
    unfold Program.keyLits
    simp only [Try.underlying3, true_and, hz, if_true]
  unfold Program.keyLits
  simp only [Try.underlying55]
  simp [cellsT11, cellsI11, e1 x hx, e1 y hy]
set_option maxRecDepth 100000 in
theorem key11 {x y : Int} (hx : W64 x) (hy : W64 y) : keyOf Try.prog 55 (tieV x y) = some (kl x y) := by
  have h : ∃ l, keyOf Try.prog 55 (tieV x y) = some l := by
    have hf : (tieV x y).formed Try.prog 55 = true := by
      rw [tieV, Value.formed, Try.underlying55, cellsT11]; rfl
    obtain ⟨d, hd⟩ := size11
    rw [keyOf, Try.underlying55]
    simp only [keyT11, hf, Bool.and_self, if_true, hd]
    rw [show (tieV x y).cells.toList = [.int .i64 x, .int .i64 y] from rfl, lits11 d hx hy]
    exact ⟨_, rfl⟩
  obtain ⟨l, e⟩ := h
  rw [kl, e]; rfl
set_option maxRecDepth 100000 in
theorem kl_inj {x y a b : Int} (hx : W64 x) (hy : W64 y) (ha : W64 a) (hb : W64 b) (e : kl x y = kl a b) : x = a ∧ y = b := by
  have h1 := key11 hx hy
  have h2 := key11 ha hb
  rw [e] at h1
  have := law11.inj h1 h2
  simpa [tieV] using this
set_option maxRecDepth 100000 in
theorem kl_key {x y : Int} (hx : W64 x) (hy : W64 y) : WideAt.IsKeyLit (kl x y) := law11.key (key11 hx hy)

/-- What the map reads as is told by g. -/
def Tells (D : DataW Unit) (g : Int → Int → Int) : Prop := ∀ x y, W64 x → W64 y → D.atKey (kl x y) (.lit (.int .i64 0)) = .lit (.int .i64 (g x y)) ∧ Maps.has D (kl x y) = (g x y != 0)
/-- Block b is a map of at most m pairs that is told by g. -/
def KM (w : World) (b m : Nat) (g : Int → Int → Int) : Prop := ∃ D : DataW Unit, w.ownsMap Try.prog 55 (plainElem Try.prog 3) b m D ∧ Tells D g
set_option maxRecDepth 100000 in
theorem KM.made (w : World) : KM (w.alloc (.map #[] 0)) w.heap.size 0 (fun _ _ => 0) :=
  ⟨.map [], World.ownsMap_made _ _ _ _, fun _ _ _ _ => ⟨rfl, rfl⟩⟩
set_option maxRecDepth 100000 in
theorem KM.lt {w : World} {b m : Nat} {g : Int → Int → Int} (h : KM w b m g) : b < w.heap.size := by
  obtain ⟨D, h, _⟩ := h
  exact h.lt
set_option maxRecDepth 100000 in
theorem KM.kept {w w' : World} {b m : Nat} {g : Int → Int → Int} {row : Option Nat} (h : KM w b m g) (hg : w.grownBy w' row) (hne : some b ≠ row) : KM w' b m g := by
  obtain ⟨D, h, t⟩ := h
  exact ⟨D, h.kept hg hne, t⟩
set_option maxRecDepth 100000 in
theorem KM.below {w w' : World} {b m : Nat} {g : Int → Int → Int} {s : Nat} (h : KM w b m g) (hb : Below s w w') (hs : b < s) : KM w' b m g := by
  obtain ⟨D, ⟨es, clock, hh, r⟩, t⟩ := h
  exact ⟨D, ⟨es, clock, (hb.block b hs).trans hh, r⟩, t⟩
set_option maxRecDepth 100000 in
theorem KM.drew {w : World} {b m : Nat} {g : Int → Int → Int} (h : KM w b m g) : KM w.drew b m g := h
set_option maxRecDepth 100000 in
theorem KM.alloc {w : World} {b m : Nat} {g : Int → Int → Int} (h : KM w b m g) (o : Obj) : KM (w.alloc o) b m g := by
  obtain ⟨D, h, t⟩ := h
  exact ⟨D, h.alloc o, t⟩
set_option maxRecDepth 100000 in
theorem KM.look {w : World} {b m : Nat} {g : Int → Int → Int} (h : KM w b m g) {x y : Int} (hx : W64 x) (hy : W64 y) :
    (Instr.lookup 47 (.map (some b)) (.agg #[.int .i64 x, .int .i64 y]) false).run Try.prog w = .ok (.int .i64 (g x y)) w := by
  obtain ⟨D, h, t⟩ := h
  obtain ⟨c, hrun, hat, _⟩ := h.lookup_int law11 Try.underlying47 Try.underlying3 (zero11 w) (key11 hx hy)
  rw [(t x y hx hy).1] at hat
  simp at hat
  rw [hat]
  exact hrun
set_option maxRecDepth 100000 in
theorem KM.lookOk {w : World} {b m : Nat} {g : Int → Int → Int} (h : KM w b m g) {x y : Int} (hx : W64 x) (hy : W64 y) :
    (Instr.lookup 47 (.map (some b)) (.agg #[.int .i64 x, .int .i64 y]) true).run Try.prog w = .ok (.tuple #[.int .i64 (g x y), .bool (g x y != 0)]) w := by
  obtain ⟨D, h, t⟩ := h
  obtain ⟨v, ps, hrun, hv⟩ := h.look_ok law11 Try.underlying47 (zero11 w) (plainElem_int Try.underlying3 (by decide)) (key11 hx hy)
  obtain ⟨c, rfl, hc, _⟩ := plainElem_int_inv Try.underlying3 hv
  rw [(t x y hx hy).1] at hc
  simp at hc
  rw [← (t x y hx hy).2, hc.1]
  exact hrun
set_option maxRecDepth 100000 in
theorem KM.put {w : World} {b m : Nat} {g : Int → Int → Int} (h : KM w b m g) (hm : m < 1000) {x y z : Int} (hx : W64 x) (hy : W64 y) (hz : W64 z) (hz0 : z ≠ 0) :
    ∃ w', (Instr.mapUpdate 47 (.map (some b)) (.agg #[.int .i64 x, .int .i64 y]) (.int .i64 z)).run Try.prog w = .ok () w' ∧ KM w' b (m + 1) (fun a c => if a = x ∧ c = y then z else g a c) ∧ w.grownBy w' (some b) := by
  obtain ⟨D, h, t⟩ := h
  obtain ⟨w', hrun, h', hg⟩ := h.update law11 Try.underlying47 (by unfold maxLen; omega) (key11 hx hy) (plainElem_int Try.underlying3 hz)
  refine ⟨w', hrun, ⟨_, h', fun a c ha hc => ?_⟩, hg⟩
  by_cases e : a = x ∧ c = y
  · obtain ⟨rfl, rfl⟩ := e
    refine ⟨by rw [atKey_put_same h.isMap (kl_key ha hc)]; simp, ?_⟩
    rw [has_put_same h.isMap (kl_key ha hc)]
    simp [hz0]
  · have hne : kl a c ≠ kl x y := fun q => e (kl_inj ha hc hx hy q)
    rw [atKey_put_other hne, has_put_other hne]
    simp only [if_neg e]
    exact t a c ha hc

/-- A map, or nil: told by g. -/
def KV (w : World) (v : Option Nat) (g : Int → Int → Int) : Prop := (v = none ∧ ∀ x y, g x y = 0) ∨ ∃ b m, v = some b ∧ m ≤ 40 ∧ KM w b m g
set_option maxRecDepth 100000 in
theorem KV.look {w : World} {v : Option Nat} {g : Int → Int → Int} (h : KV w v g) {x y : Int} (hx : W64 x) (hy : W64 y) :
    (Instr.lookup 47 (.map v) (.agg #[.int .i64 x, .int .i64 y]) false).run Try.prog w = .ok (.int .i64 (g x y)) w := by
  rcases h with ⟨rfl, h⟩ | ⟨b, m, rfl, _, h⟩
  · rw [h]
    exact Maps.look_nil false law11 Try.underlying47 (zero11 w) (key11 hx hy)
  · exact h.look hx hy
set_option maxRecDepth 100000 in
theorem KV.lookOk {w : World} {v : Option Nat} {g : Int → Int → Int} (h : KV w v g) {x y : Int} (hx : W64 x) (hy : W64 y) :
    (Instr.lookup 47 (.map v) (.agg #[.int .i64 x, .int .i64 y]) true).run Try.prog w = .ok (.tuple #[.int .i64 (g x y), .bool (g x y != 0)]) w := by
  rcases h with ⟨rfl, h⟩ | ⟨b, m, rfl, _, h⟩
  · rw [h]
    exact Maps.look_nil true law11 Try.underlying47 (zero11 w) (key11 hx hy)
  · exact h.lookOk hx hy
set_option maxRecDepth 100000 in
theorem KV.below {w w' : World} {v : Option Nat} {g : Int → Int → Int} (h : KV w v g) (hb : Below w.heap.size w w') : KV w' v g := by
  rcases h with h | ⟨b, m, rfl, hm, h⟩
  · exact Or.inl h
  · exact Or.inr ⟨b, m, rfl, hm, h.below hb h.lt⟩
set_option maxRecDepth 100000 in
theorem KV.alloc {w : World} {v : Option Nat} {g : Int → Int → Int} (h : KV w v g) (o : Obj) : KV (w.alloc o) v g := h.below (below_box (Below.refl _ _))
set_option maxRecDepth 100000 in
theorem KV.drew {w : World} {v : Option Nat} {g : Int → Int → Int} (h : KV w v g) : KV w.drew v g := h
end Go.Proofs.Ytgjohkpicajhpaa
