/- The first store. -/
import Derived.Test.YtddbgmknbjdbcaaOwn16
namespace Go.Proofs.Ytddbgmknbjdbcaa
open Go.RowKit

/-- The first leaf, the first configuration, the first store. -/
def lf16 : Lf := ⟨1, fun _ => ⟨#[118, 101, 114, 115, 105, 111, 110]⟩, ⟨#[48]⟩⟩
def c16 : Cf := ⟨1, fun _ => lf16⟩
def st16 : Sto := ⟨c16, c16, 1, fun _ => c16, 0⟩
theorem wd_ver : Wd ⟨#[118, 101, 114, 115, 105, 111, 110]⟩ := ⟨by decide, by decide, by
  intro i hi
  have hi : i < 7 := hi
  match i, hi with
  | 0, _ => decide
  | 1, _ => decide
  | 2, _ => decide
  | 3, _ => decide
  | 4, _ => decide
  | 5, _ => decide
  | 6, _ => decide⟩
theorem wd_zero : Wd ⟨#[48]⟩ := ⟨by decide, by decide, by
  intro i hi
  have hi : i < 1 := hi
  match i, hi with
  | 0, _ => decide⟩
theorem gc16 : GC c16.n c16.T := ⟨fun k hk => ⟨⟨Nat.le_refl _, (show (1 : Nat) ≤ 5 by omega), fun _ _ => wd_ver⟩, wd_zero, fun h => by have : k < 1 := hk; omega⟩, by decide⟩
theorem same16 : SameC c16 c16 := ⟨rfl, fun _ _ => ⟨rfl, rfl, Nat.le_refl _, fun _ _ => rfl⟩⟩
theorem gs16 : GS st16 := ⟨gc16, gc16, Nat.le_refl _, by decide, fun _ _ => gc16, .inl ⟨same16, rfl⟩⟩
theorem lowF16 : LowF 1 (fun _ => lf16) := fun _ _ => ⟨(show (1 : Nat) ≤ 1048576 by omega), fun _ _ => (show (7 : Nat) ≤ 1048576 by omega), (show (1 : Nat) ≤ 1048576 by omega)⟩
theorem lowC16 : LowCf c16 := ⟨(show (2 : Nat) ≤ 1048576 by omega), lowF16⟩
theorem low16 : LowSt st16 := ⟨lowC16, lowC16, (show (1 : Nat) ≤ 1048576 by omega), fun _ _ => lowC16, (show (2 : Nat) ≤ 1048576 by omega)⟩
end Go.Proofs.Ytddbgmknbjdbcaa
