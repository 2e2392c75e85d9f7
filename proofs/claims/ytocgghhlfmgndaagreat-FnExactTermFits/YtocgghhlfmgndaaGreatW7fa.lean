/- The law on TermFits, whole. -/
import Derived.Test.YtocgghhlfmgndaaGreatW7f
import Derived.Test.YtocgghhlfmgndaaGreatTF7
namespace Go.Proofs.YtocgghhlfmgndaaGreat
open Go.RowKit

theorem w_termFits (ra : Option Addr) (rc : Nat) (qa : Option Addr) (qc : Nat) (aa : Option Addr) (ac : Nat) (t : Tc) (pa pl o nx md pf : Int) (a0 : Option Addr) (n0 c0 : Nat) (f : Nat → Int) (a1 : Option Addr) (n1 c1 : Nat) (g : Nat → Int) (w : World) (hr : t.nr ≤ maxLen) (hp : t.np ≤ maxLen) (ha : t.na ≤ maxLen) (hT : TmIn ra qa qc aa t w) (h0 : n0 ≤ maxLen) (R0 : RowInt a0 n0 f w) (h1 : n1 ≤ maxLen) (R1 : RowInt a1 n1 g w) :
    Calls Tryz.prog 3 #[.agg #[.slice ra t.nr rc, .slice qa t.np qc, .int .i64 t.cm, .slice aa t.na ac, .int .i64 t.vd], .agg #[.int .i64 pa, .int .i64 pl, .int .i64 o, .slice a0 n0 c0, .int .i64 nx, .int .i64 md, .int .i64 pf, .slice a1 n1 c1]] w fun e w' => e = .returned (.bool true) ∧ Below w.heap.size w w' := by
  obtain ⟨r, hM⟩ := mp_some (listQ t.np t.q0 t.q1) (lsI n0 f)
  exact w_termFits_law ra rc qa qc aa ac t pa pl o nx md pf a0 n0 c0 f a1 n1 c1 g w _ _ hr hp ha hT h0 R0 h1 R1
    (fun e1 e2 e3 e4 e5 ra rc qa qc aa ac a0 c0 a1 c1 w hT R0 R1 => s_termFits t pa pl o nx md pf n0 f n1 g r e1 e2 e3 e4 e5 hM ra rc qa qc aa ac a0 c0 a1 c1 w hT R0 R1)
    (fun e1 e2 e3 e4 e5 ra rc qa qc aa ac a0 c0 a1 c1 w hT R0 R1 => i_termFits t pa pl o nx md pf n0 f n1 g r e1 e2 e3 e4 e5 hM ra rc qa qc aa ac a0 c0 a1 c1 w hT R0 R1)
end Go.Proofs.YtocgghhlfmgndaaGreat
