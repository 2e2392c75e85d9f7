/- Answers that are lists of offers of their own: compared, marked, looked at again. -/
import Derived.Test.YtgkjokobbeahfaaLst8
namespace Go.Proofs.Ytgkjokobbeahfaa
open Go.RowKit

/-- The answer v is the list D, in memory of its own from base on. -/
def AnsO (base : Nat) (v : Value) (D : List Oc) (w : World) : Prop := ∃ ga gc, v = .slice ga D.length gc ∧ RowO ga D.length (TL D) w ∧
  (D = [] ∨ ∃ g X Y K L, ga = some ⟨g, 0, none⟩ ∧ RowOA g D.length X Y K L (TL D) w ∧ SepO g D.length X Y ∧ ∀ k, BlkO g D.length X Y k → base ≤ k)
theorem LsO.ans {base : Nat} {v : Value} {M : List Oe} {D : List Oc} {w : World} (h : LsO base v M w) (hM : M.map (·.t) = D) : AnsO base v D w := by
  subst hM
  obtain ⟨a, cap, rfl, hrow, hc⟩ := h.shape
  refine ⟨a, cap, by simp, by simpa using hrow, ?_⟩
  rcases hc with rfl | ⟨g, ha, _, hRA, hSp, hB⟩
  · exact .inl rfl
  · have e : M.length = (M.map (·.t)).length := by simp
    rw [e] at hRA hSp
    rw [e] at hB
    exact .inr ⟨g, _, _, _, _, ha, hRA, hSp, hB⟩
/-- What lies below and what is the answer's own stay apart. -/
theorem RowO.base {a : Option Addr} {n base : Nat} {T : Nat → Oc} {w w1 w2 : World} (h : RowO a n T w) (hs : w.heap.size ≤ base) (b : Below base w1 w2) (b1 : Below w.heap.size w w1) : RowO a n T w2 := h.below (b1.trans (b.mono hs))
set_option maxRecDepth 100000 in
theorem w_markO0 (a : Option Addr) (cap : Nat) (w : World) :
    Calls Try.prog 29 #[.slice a 0 cap, .int .i64 1] w fun e w' => e = .returned (.int .i64 1) ∧ w' = w := by
  go_enter Try.func29, Try.ntmps29
  go_wp2_with fail
  go_loopw [1, 5] (fun z y wr => z = .int .i64 1 ∧ y = .int .i64 0 ∧ wr = w) (fun _ _ _ => 0)
  case atStart => exact ⟨rfl, rfl, rfl⟩
  case round =>
    obtain ⟨rfl, rfl, rfl⟩ := hrel
    go_wp2_with fail
    go_ret
    exact ⟨rfl, rfl⟩
/-- An answer is marked: it holds the marks, and nothing below its memory has turned. -/
theorem w_markAns (base : Nat) (ga : Option Addr) (gc : Nat) (D : List Oc) (w : World) (hn : D.length ≤ 1048576) (ht : totO (TL D) D.length ≤ 1048576) (hb : base ≤ w.heap.size)
    (hA : D = [] ∨ ∃ g X Y K L, ga = some ⟨g, 0, none⟩ ∧ RowOA g D.length X Y K L (TL D) w ∧ SepO g D.length X Y ∧ ∀ k, BlkO g D.length X Y k → base ≤ k) :
    Calls Try.prog 29 #[.slice ga D.length gc, .int .i64 1] w fun e w' => e = .returned (.int .i64 (kmO (TL D) D.length : Int)) ∧ RowO ga D.length (halfO (TL D) D.length) w' ∧ Below base w w' := by
  rcases hA with rfl | ⟨g, X, Y, K, L, rfl, hR, hS, hB⟩
  · refine (w_markO0 ga gc w).mono ?_
    rintro e w' ⟨rfl, rfl⟩
    exact ⟨rfl, fun i hi => absurd hi (Nat.not_lt_zero _), Below.refl _ _⟩
  · refine (w_markOfferS g D.length gc X Y K L (TL D) w hn ht hS hR).mono ?_
    rintro e w' ⟨rfl, hR', hO⟩
    exact ⟨rfl, hR'.row, hO.below hB hb⟩
end Go.Proofs.Ytgkjokobbeahfaa
