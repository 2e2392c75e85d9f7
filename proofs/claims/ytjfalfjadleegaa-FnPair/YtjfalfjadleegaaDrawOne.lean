/- Once in so many times. -/
import Derived.Test.YtjfalfjadleegaaCur
namespace Go.Proofs.Ytjfalfjadleegaa
open Go.RowKit

theorem d_one (c : Nat) (v : Value) (len n : Nat) (k : Int) (w : World) (hn : n ≤ 900000) (hk : k ≤ 1000000000) (hcur : Cur c v n w) (hby : BytesAt c w v len) :
    Calls Try.prog 9 #[.pointer (some ⟨c, 0, none⟩), .int .i64 k] w fun e w' =>
      ∃ r : Bool, e = .returned (.bool r) ∧ Cur c v (n + 2) w' ∧ Only c w w' := by
  have s1 := hide (fun w hc hb => d_pick c v len n k w hn hk hc hb)
  go_enter Try.func9, Try.ntmps9
  go_wp2_with fail
  refine (s1.out _ hcur hby).mono ?_
  rintro e w1 ⟨r, _, _, rfl, hc, ho⟩
  go_wp2_with fail
  go_ret
  exact ⟨_, rfl, hc, ho⟩
end Go.Proofs.Ytjfalfjadleegaa
