/- The plain meaning of attrs, routes and tables that are alike. -/
import Derived.Test.YtlhdeeihpaogkaaPlain14
import Derived.Test.YtlhdeeihpaogkaaPlain10
namespace Go.Proofs.Ytlhdeeihpaogkaa
open Go.RowKit

/-- The lists of a route. -/
def Ro.p0 (t : Ro) : Lc := ⟨t.n0, t.f⟩
def Ro.p1 (t : Ro) : Lc := ⟨t.n1, t.g⟩
def SaP (t u : Ro) : Prop := t.o = u.o ∧ t.nx = u.nx ∧ t.md = u.md ∧ t.pf = u.pf ∧ Same t.p0 u.p0 ∧ Same t.p1 u.p1
def SrP (t u : Ro) : Prop := t.pa = u.pa ∧ t.pl = u.pl ∧ SaP t u
/-- Whether two tables are the same. -/
def TsP (n : Nat) (T : Nat → Ro) (n' : Nat) (T' : Nat → Ro) : Prop := n = n' ∧ ∀ i, i < n → SrP (T i) (T' i)
noncomputable def soB (n : Nat) (T : Nat → Ro) (n' : Nat) (T' : Nat → Ro) : Bool := gtB n T && gtB n' T'
noncomputable def sroB (n : Nat) (T : Nat → Ro) (n' : Nat) (T' : Nat → Ro) : Bool := soB n T n' T' && pB (TsP n T n' T')
theorem so_no1 {n : Nat} {T : Nat → Ro} {n' : Nat} {T' : Nat → Ro} (h : gtB n T = false) : soB n T n' T' = false ∧ sroB n T n' T' = false := by simp [soB, sroB, h]
theorem so_no2 {n : Nat} {T : Nat → Ro} {n' : Nat} {T' : Nat → Ro} (h : gtB n' T' = false) : soB n T n' T' = false ∧ sroB n T n' T' = false := by simp [soB, sroB, h]
theorem so_yes {n : Nat} {T : Nat → Ro} {n' : Nat} {T' : Nat → Ro} (h : gtB n T = true) (h' : gtB n' T' = true) : soB n T n' T' = true ∧ sroB n T n' T' = pB (TsP n T n' T') := by simp [soB, sroB, h, h']
theorem ts_no {n : Nat} {T : Nat → Ro} {n' : Nat} {T' : Nat → Ro} {i : Nat} (hi : i < n) (h : ¬ SrP (T i) (T' i)) : pB (TsP n T n' T') = false := pB_f (fun k => h (k.2 i hi))
theorem ts_len {n : Nat} {T : Nat → Ro} {n' : Nat} {T' : Nat → Ro} (h : ¬ n = n') : pB (TsP n T n' T') = false := pB_f (fun k => h k.1)
theorem ts_yes {n : Nat} {T T' : Nat → Ro} (h : ∀ i, i < n → SrP (T i) (T' i)) : pB (TsP n T n T') = true := pB_t ⟨rfl, h⟩
end Go.Proofs.Ytlhdeeihpaogkaa
