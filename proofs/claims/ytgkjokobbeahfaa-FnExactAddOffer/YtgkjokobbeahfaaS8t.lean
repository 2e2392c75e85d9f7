/- l8Put of the specification. -/
import Derived.Test.YtgkjokobbeahfaaS8ta
import Derived.Test.YtgkjokobbeahfaaS8tb
import Derived.Test.YtgkjokobbeahfaaAdd8
namespace Go.Proofs.Ytgkjokobbeahfaa
open Go.RowKit

/-- How far the lesser peers go. -/
def kO (L : List Oe) (x : Int) : Nat := ((L.map (·.t)).takeWhile (fun t => decide (t.pe < x))).length
theorem kO_le (L : List Oe) (x : Int) : kO L x ≤ L.length := by
  have h := (List.takeWhile_prefix (p := fun t : Oc => decide (t.pe < x)) (l := L.map (·.t))).length_le
  simpa [kO] using h
theorem kO_take (L : List Oe) (x : Int) : (L.take (kO L x)).map (·.t) = (L.map (·.t)).takeWhile (fun t => decide (t.pe < x)) := by
  rw [List.map_take]
  exact (List.prefix_iff_eq_take.1 (List.takeWhile_prefix _)).symm
theorem kO_drop (L : List Oe) (x : Int) : (L.drop (kO L x)).map (·.t) = (L.map (·.t)).dropWhile (fun t => decide (t.pe < x)) := by
  have h1 := List.takeWhile_append_dropWhile (p := fun t : Oc => decide (t.pe < x)) (l := L.map (·.t))
  have h2 : (L.map (·.t)).drop (kO L x) = (L.map (·.t)).dropWhile (fun t => decide (t.pe < x)) := by
    conv => lhs; rw [← h1]
    exact List.drop_left' rfl
  rw [List.map_drop]
  exact h2
theorem kO_lt {L : List Oe} {x : Int} {i : Nat} (h : i < kO L x) : (uAt L i).t.pe < x := by
  have hle := kO_le L x
  have hm : (uAt L i).t ∈ (L.map (·.t)).takeWhile (fun t => decide (t.pe < x)) := by
    rw [← kO_take]
    have hi : i < (L.take (kO L x)).length := by rw [List.length_take]; omega
    have : uAt L i = (L.take (kO L x))[i] := by rw [uAt_eq (by omega)]; simp
    rw [this]
    exact List.mem_map_of_mem (List.getElem_mem hi)
  have h2 := List.all_eq_true.1 (List.all_takeWhile (p := fun t : Oc => decide (t.pe < x)) (l := L.map (·.t))) _ hm
  simpa using h2
theorem kO_at {L : List Oe} {x : Int} (h : kO L x < L.length) : ¬ (uAt L (kO L x)).t.pe < x ∧ adR ((L.map (·.t)).dropWhile (fun t => decide (t.pe < x))) x = if (uAt L (kO L x)).t.pe = x then (L.drop (kO L x + 1)).map (·.t) else (L.drop (kO L x)).map (·.t) := by
  have hd := kO_drop L x
  have hc : L.drop (kO L x) = uAt L (kO L x) :: L.drop (kO L x + 1) := by rw [uAt_eq h]; exact List.drop_eq_getElem_cons h
  rw [hc] at hd ⊢
  rw [← hd]
  simp only [List.map_cons, adR]
  refine ⟨?_, trivial⟩
  intro hlt
  have h1 := List.head?_dropWhile_not (fun t : Oc => decide (t.pe < x)) (L.map (·.t))
  rw [← hd] at h1
  simp [hlt] at h1
theorem kO_end {L : List Oe} {x : Int} (h : ¬ kO L x < L.length) : adR ((L.map (·.t)).dropWhile (fun t => decide (t.pe < x))) x = (L.drop (kO L x)).map (·.t) := by
  rw [← kO_drop]
  have : L.drop (kO L x) = [] := List.drop_eq_nil_of_le (by omega)
  rw [this]
  rfl
set_option maxRecDepth 100000 in
set_option maxHeartbeats 6400000 in
theorem s_l8Put (b off c n K K2 : Nat) (L : List Oe) (e : Oe) (w : World) (hn : L.length = n) (hl : n ≤ 1048576) (hc : n ≤ c) (hcm : c ≤ maxLen) (hU : RowU (some ⟨b, off, none⟩) L w) (hS : ∀ e, e ∈ L → SrcO w e) (hE : SrcO w e)
    (hK : K ≤ n) (hlo : ∀ i, i < K → (uAt L i).t.pe < e.t.pe) (hat : K < n → ¬ (uAt L K).t.pe < e.t.pe) (hK2 : K2 = if K < n ∧ (uAt L K).t.pe = e.t.pe then K + 1 else K) :
    Calls Try.prog 77 #[.slice (some ⟨b, off, none⟩) n c, .agg #[.int .i64 e.t.pe, .int .i64 e.t.o, .slice e.a0 e.t.n0 e.c0, .int .i64 e.t.nx, .int .i64 e.t.md, .int .i64 e.t.pf, .slice e.a1 e.t.n1 e.c1]] w fun r w' => ∃ v M, r = .returned v ∧ M.map (·.t) = (L.take K).map (·.t) ++ e.t :: (L.drop K2).map (·.t) ∧ OwnU w.heap.size v M w' ∧ (∀ e, e ∈ M → OfIn e.a0 e.a1 e.t w') ∧ Below w.heap.size w w' := by
  by_cases h : c = K2
  · exact s_l8PutA b off c n K K2 L e w hn hl hc hcm hU hS hE hK hlo hat hK2 h
  · exact s_l8PutB b off c n K K2 L e w hn hl hc hcm hU hS hE hK hlo hat hK2 h
end Go.Proofs.Ytgkjokobbeahfaa
