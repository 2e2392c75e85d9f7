/- A whole struct is stored, as an operation of a region. -/
import Derived.Test.YtnpnhdaehddnmaaDoorArr6
namespace Go.Proofs.YtnpnhdaehddnmaaDoor
open Go.RowKit

theorem wp_storeM {P : Program} {o : Oper} {a : Act} {w : World} {K : Act → World → Prop} {Q : Exit → Act → World → Prop} {t : TypeId} {x y : Operand} (ho : o.op = .store t x y) {b : Nat} {vs us : List Value}
    (hx : a.eval x = .pointer (some ⟨b, 0, none⟩)) (hy : a.eval y = .agg us.toArray) (hM : Mut w b vs) (hl : us.length = vs.length) (h1 : ∀ v ∈ us, v.oneCell' = true) (hi : (P.info? t).map (·.size) = some us.length)
    (h : ∀ w', Mut w' b us → Only b w w' → K (a.put o.dst undef) w') : o.wp P a w K Q := by
  have hr : (execOp a.eval o).run P w = .ok .skip (w.setCells b 0 us) := by
    unfold execOp
    rw [ho]
    simp [hx, hy, store_mut hM hl h1 hi]
  unfold Oper.wp
  rw [hr, Oper.upon_skip]
  exact h _ (hM.fill hl) (only_cells b us 0 w)
end Go.Proofs.YtnpnhdaehddnmaaDoor
