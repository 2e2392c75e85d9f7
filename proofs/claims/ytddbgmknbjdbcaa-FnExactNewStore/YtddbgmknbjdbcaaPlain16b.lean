/- What stores tell, in plain words. -/
import Derived.Test.YtddbgmknbjdbcaaPlain16
import Derived.Test.YtddbgmknbjdbcaaBnd15
import Derived.Test.YtddbgmknbjdbcaaPlain15d
namespace Go.Proofs.Ytddbgmknbjdbcaa
open Go.RowKit

/-- The ticks that are left. -/
noncomputable def tiA (s : Sto) : Int × Bool := if tB (GS s) then (s.l, true) else (0, false)
theorem tiA_yes {s : Sto} (h : GS s) : tiA s = (s.l, true) := if_pos (tB_t h)
theorem tiA_no {s : Sto} (h : ¬ GS s) : tiA s = (0, false) := if_neg (by simp [tB_f h])
/-- What is confirmed. -/
noncomputable def cofA (s : Sto) : List Lf × Bool := if tB (GS s) then (lsF (s.H 0).n (s.H 0).T, true) else ([], false)
theorem cofA_yes {s : Sto} (h : GS s) : cofA s = (lsF (s.H 0).n (s.H 0).T, true) := if_pos (tB_t h)
theorem cofA_no {s : Sto} (h : ¬ GS s) : cofA s = ([], false) := if_neg (by simp [tB_f h])
/-- What is pending. -/
noncomputable def penA (s : Sto) : List Cm15 × Bool := if tB (GS s) then difA s.R.n s.R.T s.C.n s.C.T else ([], false)
theorem penA_yes {s : Sto} (h : GS s) : penA s = difA s.R.n s.R.T s.C.n s.C.T := if_pos (tB_t h)
theorem penA_no {s : Sto} (h : ¬ GS s) : penA s = ([], false) := if_neg (by simp [tB_f h])
end Go.Proofs.Ytddbgmknbjdbcaa
