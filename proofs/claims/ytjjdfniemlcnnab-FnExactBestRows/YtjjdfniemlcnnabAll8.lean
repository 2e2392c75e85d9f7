/- Small means of the laws on lists of prefixes: what a mark leaves as it was, empty answers, answers in memory of their own. -/
import Derived.Test.YtjjdfniemlcnnabLst8
import Derived.Test.YtjjdfniemlcnnabAll7
import Derived.Test.YtjjdfniemlcnnabMem3
/- Two lists of one's own that grow in turn: offers, and prefixes. -/
namespace Go.Proofs.Ytjjdfniemlcnnab
open Go.RowKit

/-- The block of the prefixes is none of the offers'. -/
def ApU (v : Value) (M : List Oe) (u : Value) : Prop := ∀ g, u.ownBlock = some g → v.ownBlock ≠ some g ∧ ∀ e, e ∈ M → bxO e ≠ g ∧ byO e ≠ g
def OPs (base : Nat) (v : Value) (M : List Oe) (u : Value) (R : List Pf) (w : World) : Prop := LsO base v M w ∧ OwnP base u R w ∧ ApU v M u
theorem OPs.nil (base : Nat) (w : World) : OPs base (.slice none 0 0) [] (.slice none 0 0) [] w := ⟨LsO.nil _ _, ownP_nil _ _, fun g e => by simp [Value.ownBlock] at e⟩
theorem OPs.below {base : Nat} {v u : Value} {M : List Oe} {R : List Pf} {w w' : World} (h : OPs base v M u R w) (b : Below w.heap.size w w') : OPs base v M u R w' := ⟨h.1.below b, ownP_below h.2.1 b, h.2.2⟩
theorem LsO.base {base base' : Nat} {v : Value} {M : List Oe} {w : World} (h : LsO base v M w) (hb : base' ≤ base) : LsO base' v M w := by
  refine ⟨ownU_base h.1 hb, fun e he => ?_, h.2.2⟩
  obtain ⟨k1, k2, k3, k4, k5, k6, k7, k8⟩ := h.2.1 e he
  exact ⟨k1, k2, by omega, k4, k5, k6, k7, k8⟩
theorem OPs.base {base base' : Nat} {v u : Value} {M : List Oe} {R : List Pf} {w : World} (h : OPs base v M u R w) (hb : base' ≤ base) : OPs base' v M u R w := ⟨h.1.base hb, ownP_base h.2.1 hb, h.2.2⟩
/-- An offer more. -/
theorem OPs.appO {base : Nat} {v v' u : Value} {M : List Oe} {R : List Pf} {e : Oe} {w w' : World} (h : OPs base v M u R w) (hL : LsO base v' (M ++ [e]) w') (hgr : w.grownBy w' v.ownBlock) (hb : v'.ownBlock = v.ownBlock ∨ v'.ownBlock = some w.heap.size) (he : ∀ g, u.ownBlock = some g → bxO e ≠ g ∧ byO e ≠ g) : OPs base v' (M ++ [e]) u R w' := by
  refine ⟨hL, ?_, fun g hg => ⟨?_, fun e' he' => ?_⟩⟩
  · by_cases hu : ∃ g, u.ownBlock = some g
    · obtain ⟨g, hg⟩ := hu
      exact World.ownsRow.kept h.2.1 hgr (.inr (by rw [hg]; exact fun q => (h.2.2 g hg).1 q.symm))
    · cases hv : u.ownBlock with
      | none => exact World.ownsRow.kept h.2.1 hgr (.inl hv)
      | some x => exact absurd ⟨x, hv⟩ hu
  · rcases hb with hb | hb
    · rw [hb]; exact (h.2.2 g hg).1
    · rw [hb]; have := (ownP_blk h.2.1 hg).2; simp; omega
  · rcases List.mem_append.1 he' with hm | hm
    · exact (h.2.2 g hg).2 e' hm
    · obtain rfl : e' = e := by simpa using hm
      exact he g hg
/-- A prefix more. -/
theorem OPs.appP {base : Nat} {v u u' : Value} {M : List Oe} {R R' : List Pf} {w w' : World} (h : OPs base v M u R w) (hL : OwnP base u' R' w') (hgr : w.grownBy w' u.ownBlock) (hb : u'.ownBlock = u.ownBlock ∨ u'.ownBlock = some w.heap.size) : OPs base v M u' R' w' := by
  obtain ⟨h1, h2, h3⟩ := h
  have key : ∀ g, v.ownBlock = some g → u.ownBlock ≠ some g := fun g hg hu => (h3 g hu).1 hg
  refine ⟨⟨?_, fun e he => ?_, h1.2.2⟩, hL, fun g hg => ?_⟩
  · cases hv : v.ownBlock with
    | none => exact World.ownsRow.kept h1.1 hgr (.inl hv)
    | some x => exact World.ownsRow.kept h1.1 hgr (.inr (by rw [hv]; exact fun q => key x hv q.symm))
  · obtain ⟨k1, k2, k3, k4, k5, k6, k7, k8⟩ := h1.2.1 e he
    exact ⟨k1, k2, k3, k4, k5, k6, k7.grow8 hgr (fun q => ((h3 _ q).2 e he).1 rfl), k8.grow8 hgr (fun q => ((h3 _ q).2 e he).2 rfl)⟩
  · rcases hb with hb | hb
    · rw [hb] at hg; exact h3 g hg
    · rw [hb] at hg
      simp at hg
      subst hg
      refine ⟨fun q => ?_, fun e he => ?_⟩
      · have := (ownU_blk h1.1 q).2; omega
      · have hy := h1.lt he
        have hx := (h1.2.1 e he).2.2.2.1
        exact ⟨by omega, by omega⟩
/-- The best offers of the rows that have one, and their prefixes. -/
def brI (ow : Int) (n : Nat) (U : Nat → Rc) : List Nat := (List.range n).filter (fun i => bfB (U i).n (U i).T ow)
def brO (ow : Int) (n : Nat) (U : Nat → Rc) : List Oc := (brI ow n U).map (fun i => bfT (U i).n (U i).T ow)
def brP (ow : Int) (n : Nat) (U : Nat → Rc) : List Pf := (brI ow n U).map (fun i => ((U i).ad, (U i).ln))
theorem brI_succ (ow : Int) (n : Nat) (U : Nat → Rc) : brI ow (n + 1) U = brI ow n U ++ (if bfB (U n).n (U n).T ow = true then [n] else []) := by
  unfold brI
  rw [List.range_succ, List.filter_append]
  congr 1
  by_cases e : bfB (U n).n (U n).T ow = true
  · simp [e]
  · simp [e]
theorem br_yes {ow : Int} {n : Nat} {U : Nat → Rc} (h : bfB (U n).n (U n).T ow = true) : brO ow (n + 1) U = brO ow n U ++ [bfT (U n).n (U n).T ow] ∧ brP ow (n + 1) U = brP ow n U ++ [((U n).ad, (U n).ln)] := by
  unfold brO brP
  rw [brI_succ, if_pos h]
  simp
theorem br_no {ow : Int} {n : Nat} {U : Nat → Rc} (h : bfB (U n).n (U n).T ow = false) : brO ow (n + 1) U = brO ow n U ∧ brP ow (n + 1) U = brP ow n U := by
  unfold brO brP
  rw [brI_succ, if_neg (by rw [h]; simp)]
  simp
theorem br_len (ow : Int) (n : Nat) (U : Nat → Rc) : (brO ow n U).length ≤ n ∧ (brP ow n U).length ≤ n ∧ (brO ow n U).length = (brP ow n U).length := by
  have : (brI ow n U).length ≤ n := by
    unfold brI
    have := List.length_filter_le (fun i => bfB (U i).n (U i).T ow) (List.range n)
    simpa using this
  unfold brO brP
  simp [this]
/-- What BestRows answers. -/
def rrO (ow : Int) (n : Nat) (U : Nat → Rc) : List Oc := if rbB ow n U = true then brO ow n U else []
def rrP (ow : Int) (n : Nat) (U : Nat → Rc) : List Pf := if rbB ow n U = true then brP ow n U else []
theorem rr_no {ow : Int} {n : Nat} {U : Nat → Rc} (h : rbB ow n U = false) : rrO ow n U = [] ∧ rrP ow n U = [] := by simp [rrO, rrP, h]
theorem rr_yes {ow : Int} {n : Nat} {U : Nat → Rc} (h : rbB ow n U = true) : rrO ow n U = brO ow n U ∧ rrP ow n U = brP ow n U := by simp [rrO, rrP, h]
end Go.Proofs.Ytjjdfniemlcnnab

/- Answers that are lists of offers of their own: compared, marked, looked at again. -/
namespace Go.Proofs.Ytjjdfniemlcnnab
open Go.RowKit

/-- The answer v is the list D, in memory of its own from base on. -/
def AnsO (base : Nat) (v : Value) (D : List Oc) (w : World) : Prop := ∃ ga gc, v = .slice ga D.length gc ∧ RowO ga D.length (TL D) w ∧
  (D = [] ∨ ∃ g X Y K L, ga = some ⟨g, 0, none⟩ ∧ RowOA g D.length X Y K L (TL D) w ∧ SepO g D.length X Y ∧ ∀ k, BlkO g D.length X Y k → base ≤ k)
theorem LsO.ans {base : Nat} {v : Value} {M : List Oe} {D : List Oc} {w : World} (h : LsO base v M w) (hM : M.map (·.t) = D) : AnsO base v D w := by
  subst hM
  obtain ⟨a, cap, rfl, hrow, hc⟩ := h.shape
  refine ⟨a, cap, by simp, by simpa using hrow, ?_⟩
  rcases hc with rfl | ⟨g, ha, _, hRA, hSp, hB⟩
  · exact .inl rfl
  · have e : M.length = (M.map (·.t)).length := by simp
    rw [e] at hRA hSp
    rw [e] at hB
    exact .inr ⟨g, _, _, _, _, ha, hRA, hSp, hB⟩
/-- What lies below and what is the answer's own stay apart. -/
theorem RowO.base {a : Option Addr} {n base : Nat} {T : Nat → Oc} {w w1 w2 : World} (h : RowO a n T w) (hs : w.heap.size ≤ base) (b : Below base w1 w2) (b1 : Below w.heap.size w w1) : RowO a n T w2 := h.below (b1.trans (b.mono hs))
set_option maxRecDepth 100000 in
theorem w_markO0 (a : Option Addr) (cap : Nat) (w : World) :
    Calls Try.prog 12 #[.slice a 0 cap, .int .i64 1] w fun e w' => e = .returned (.int .i64 1) ∧ w' = w := by
  go_enter Try.func12, Try.ntmps12
  go_wp2_with fail
  go_loopw [1, 5] (fun z y wr => z = .int .i64 1 ∧ y = .int .i64 0 ∧ wr = w) (fun _ _ _ => 0)
  case atStart => exact ⟨rfl, rfl, rfl⟩
  case round =>
    obtain ⟨rfl, rfl, rfl⟩ := hrel
    go_wp2_with fail
    go_ret
    exact ⟨rfl, rfl⟩
/-- An answer is marked: it holds the marks, and nothing below its memory has turned. -/
theorem w_markAns (base : Nat) (ga : Option Addr) (gc : Nat) (D : List Oc) (w : World) (hn : D.length ≤ 1048576) (ht : totO (TL D) D.length ≤ 1048576) (hb : base ≤ w.heap.size)
    (hA : D = [] ∨ ∃ g X Y K L, ga = some ⟨g, 0, none⟩ ∧ RowOA g D.length X Y K L (TL D) w ∧ SepO g D.length X Y ∧ ∀ k, BlkO g D.length X Y k → base ≤ k) :
    Calls Try.prog 12 #[.slice ga D.length gc, .int .i64 1] w fun e w' => e = .returned (.int .i64 (kmO (TL D) D.length : Int)) ∧ RowO ga D.length (halfO (TL D) D.length) w' ∧ Below base w w' := by
  rcases hA with rfl | ⟨g, X, Y, K, L, rfl, hR, hS, hB⟩
  · refine (w_markO0 ga gc w).mono ?_
    rintro e w' ⟨rfl, rfl⟩
    exact ⟨rfl, fun i hi => absurd hi (Nat.not_lt_zero _), Below.refl _ _⟩
  · refine (w_markOfferS g D.length gc X Y K L (TL D) w hn ht hS hR).mono ?_
    rintro e w' ⟨rfl, hR', hO⟩
    exact ⟨rfl, hR'.row, hO.below hB hb⟩
end Go.Proofs.Ytjjdfniemlcnnab

namespace Go.Proofs.Ytjjdfniemlcnnab
open Go.RowKit

theorem OutPrefix.only {c d n k : Nat} {f0 f1 : Nat → Int} {w w' : World} (h : OutPrefix c n k f0 f1 w) (ho : Only d w w') (hn : c ≠ d) : OutPrefix c n k f0 f1 w' := by
  have hc := fun o => ho.cell (o := o) h.1 hn
  have hf := fun o => ho.frozen (o := o) h.1 hn
  refine ⟨Nat.lt_of_lt_of_le h.1 ho.2.2.2.1, fun i hi => ?_⟩
  obtain ⟨⟨x0, x1, h0, h1, hk⟩, g0, g1⟩ := h.2 i hi
  exact ⟨⟨x0, x1, (hc _).trans h0, (hc _).trans h1, hk⟩, (hf _).trans g0, (hf _).trans g1⟩
theorem only_base3 {c base : Nat} {w w' : World} (h : Only c w w') (hb : base ≤ c) (hc : c < w.heap.size) : Below base w w' := (h.below (by omega)).mono hb
/-- The answer of a function: a list of its own, and a flag. -/
def AnsP (fl : Bool) (R : List Pf) (w : World) (e : Ending) (w' : World) : Prop := ∃ v, e = .returned (.tuple #[v, .bool fl]) ∧ OwnP w.heap.size v R w' ∧ Below w.heap.size w w'
theorem AnsP.zero (w : World) {e : Ending} {w' : World} (h : e = .returned (.tuple #[.slice none 0 0, .bool false]) ∧ Below w.heap.size w w') : AnsP false [] w e w' := ⟨_, h.1, ownP_nil _ _, h.2⟩
theorem AnsP.full {fl : Bool} {R : List Pf} {w w' : World} {e : Ending} (h : AnsP fl R w e w') (hR : R ≠ []) :
    ∃ g c, e = .returned (.tuple #[.slice (some ⟨g, 0, none⟩) R.length c, .bool fl]) ∧ w.heap.size ≤ g ∧ OutPrefix g R.length R.length (fun i => (pAt R i).1) (fun i => (pAt R i).2) w' ∧ Below w.heap.size w w' := by
  obtain ⟨v, rfl, ho, hb⟩ := h
  obtain ⟨g, c, rfl, hg, hgl⟩ := ownP_shape ho hR
  exact ⟨g, c, rfl, hg, ownP_out ho hgl, hb⟩
theorem AnsP.nil {fl : Bool} {w w' : World} {e : Ending} (h : AnsP fl [] w e w') : ∃ ga gc, e = .returned (.tuple #[.slice ga 0 gc, .bool fl]) ∧ Below w.heap.size w w' := by
  obtain ⟨v, rfl, ho, hb⟩ := h
  obtain ⟨a, c, rfl, _⟩ := ownP_row ho
  exact ⟨a, c, rfl, hb⟩
set_option maxHeartbeats 400000 in
theorem w_markPrefixS_nil (a : Option Addr) (c : Nat) (k0 : Int) (w : World) : Calls Try.prog 13 #[.slice a 0 c, .int .i64 k0] w fun e w' => e = .returned (.int .i64 k0) ∧ w' = w := by
  go_enter Try.func13, Try.ntmps13
  go_wp2_with fail
  go_loop [1, 5] (fun kk i => kk = .int .i64 k0 ∧ i = .int .i64 0) (fun _ i => 0 - (intOf i).toNat)
  case atStart => exact ⟨rfl, rfl⟩
  case round =>
    obtain ⟨rfl, rfl⟩ := hrel
    go_wp2_with fail
    go_ret
    exact ⟨rfl, rfl⟩
end Go.Proofs.Ytjjdfniemlcnnab
