/- The law on WeightOf: the program answers as the specification. -/
import Derived.Test.YtelehmkmdbhcfaaLnk9c
import Derived.Test.YtelehmkmdbhcfaaAll6
import Derived.Test.YtelehmkmdbhcfaaAl9
import Derived.Test.YtelehmkmdbhcfaaAll4
import Derived.Deep.RegionHeld3
/- WeightOf of the program. -/
namespace Go.Proofs.Ytelehmkmdbhcfaa
open Go.RowKit

theorem keepG {w0 w' : World} {p q o1 o2 : Nat} {a b c : Value} (h : Below w0.heap.size w0 w') (hp : p < w0.heap.size) (hq : q < w0.heap.size) (k0 : w0.cell? ⟨p, 0, none⟩ = some a) (k1 : w0.cell? ⟨q, o1, none⟩ = some b) (k2 : w0.cell? ⟨q, o2, none⟩ = some c) :
    w'.cell? ⟨p, 0, none⟩ = some a ∧ w'.cell? ⟨q, o1, none⟩ = some b ∧ w'.cell? ⟨q, o2, none⟩ = some c :=
  ⟨((bcell h).1 _ _ hp).trans k0, ((bcell h).1 _ _ hq).trans k1, ((bcell h).1 _ _ hq).trans k2⟩
theorem keepGs {w0 w' : World} {p q o1 o2 : Nat} {a b c : Value} (h : Below w0.heap.size w0 w') (hp : p < w0.heap.size) (hq : q < w0.heap.size) (k0 : w0.cell? ⟨p, 0, none⟩ = some a) (k1 : w0.cell? ⟨q, o1, none⟩ = some b) (k2 : w0.cell? ⟨q, o2, none⟩ = some c) (z : Nat) (hz : w0.heap.size ≤ z) (v0 v1 v2 : Value) :
    (((w'.setCell ⟨z, 0, none⟩ v0).setCell ⟨z, 1, none⟩ v1).setCell ⟨z, 2, none⟩ v2).cell? ⟨p, 0, none⟩ = some a ∧ (((w'.setCell ⟨z, 0, none⟩ v0).setCell ⟨z, 1, none⟩ v1).setCell ⟨z, 2, none⟩ v2).cell? ⟨q, o1, none⟩ = some b ∧ (((w'.setCell ⟨z, 0, none⟩ v0).setCell ⟨z, 1, none⟩ v1).setCell ⟨z, 2, none⟩ v2).cell? ⟨q, o2, none⟩ = some c :=
  keepG (((h.setCell (p := ⟨z, 0, none⟩) hz v0).setCell (p := ⟨z, 1, none⟩) hz v1).setCell (p := ⟨z, 2, none⟩) hz v2) hp hq k0 k1 k2
end Go.Proofs.Ytelehmkmdbhcfaa

namespace Go.Proofs.Ytelehmkmdbhcfaa
open Go.RowKit

set_option maxHeartbeats 400000 in
theorem w_szArcM (a : Option Addr) (len cap : Nat) (m : Int) (w : World) (hl : len ≤ maxLen) (hm : m ≤ 1048576) (hm0 : 0 ≤ m) :
    Calls Try.prog 5 #[.slice a len cap, .int .i64 m] w fun e w' => e = .returned (.int .i64 (if (len : Int) ≤ m then m - (len : Int) else -1)) ∧ w' = w := by
  unfold maxLen at hl
  by_cases h : (len : Int) ≤ m
  · rw [if_pos h]
    have h1 : ¬ (m - (len : Int) < 0) := by omega
    go_enter Try.func5, Try.ntmps5
    go_wp2_with fail
    go_ret
    exact ⟨rfl, rfl⟩
  · rw [if_neg h]
    have h1 : m - (len : Int) < 0 := by omega
    go_enter Try.func5, Try.ntmps5
    go_wp2_with fail
    go_ret
    exact ⟨rfl, rfl⟩
end Go.Proofs.Ytelehmkmdbhcfaa
