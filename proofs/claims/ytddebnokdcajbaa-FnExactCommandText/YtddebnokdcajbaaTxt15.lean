/- CommandText in plain words. -/
import Derived.Test.YtddebnokdcajbaaJn15
namespace Go.Proofs.Ytddebnokdcajbaa
open Go.RowKit

/-- The line of a command. -/
def txtI (bs : Bool) (n : Nat) (p : Nat → ByteArray) (v : ByteArray) : ByteArray := if bs = true then ⟨#[115, 101, 116, 32]⟩ ++ joinB n p ++ ⟨#[32]⟩ ++ v else ⟨#[100, 101, 108, 101, 116, 101, 32]⟩ ++ joinB n p
/-- What CommandText answers. -/
noncomputable def cmdA (bs : Bool) (n : Nat) (p : Nat → ByteArray) (v : ByteArray) : ByteArray × Bool := if tB (Pw n p ∧ (bs = true ∧ Wd v ∨ bs = false ∧ v.toList = [])) then (txtI bs n p v, true) else (⟨#[]⟩, false)
end Go.Proofs.Ytddebnokdcajbaa
