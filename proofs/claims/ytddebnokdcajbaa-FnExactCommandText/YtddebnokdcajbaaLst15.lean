/- Lists of leaves of one's own that grow, each with a path of its own. -/
import Derived.Test.YtddebnokdcajbaaLeaf15
import Derived.Test.YtddebnokdcajbaaMemT
import Derived.Test.YtddebnokdcajbaaMemW
namespace Go.Proofs.Ytddebnokdcajbaa
open Go.RowKit

theorem Mut.grown15 {w w' : World} {b : Nat} {vs : List Value} {r : Option Nat} (h : Mut w b vs) (hg : w.grownBy w' r) (hr : r ≠ some b) : Mut w' b vs := h.onlyP (OnlyP.of_grown (P := fun k => r = some k) hg (fun _ hk => hk)) (fun e => hr e)
theorem OutStr.grown {w w' : World} {c n k : Nat} {f : Nat → ByteArray} {r : Option Nat} (h : OutStr c n k f w) (hg : w.grownBy w' r) (hr : r ≠ some c) : OutStr c n k f w' := by
  have q := OnlyP.of_grown (P := fun k => r = some k) hg (fun _ hk => hk)
  refine ⟨Nat.lt_of_lt_of_le h.1 hg.size, fun i hi => ?_⟩
  obtain ⟨⟨x, h0, hx⟩, g0⟩ := h.2 i hi
  exact ⟨⟨x, (q.cell h.1 (fun e => hr e)).trans h0, hx⟩, (q.frozen h.1 (fun e => hr e)).trans g0⟩
theorem OutStr.onlyP {P : Nat → Prop} {w w' : World} {c n k : Nat} {f : Nat → ByteArray} (h : OutStr c n k f w) (q : OnlyP P w w') (hr : ¬ P c) : OutStr c n k f w' := by
  refine ⟨Nat.lt_of_lt_of_le h.1 q.2.2.2.1, fun i hi => ?_⟩
  obtain ⟨⟨x, h0, hx⟩, g0⟩ := h.2 i hi
  exact ⟨⟨x, (q.cell h.1 hr).trans h0, hx⟩, (q.frozen h.1 hr).trans g0⟩
/-- A list of strings of one's own is a block that may be written. -/
theorem ownT_out {e : TypeId} {base : Nat} {v : Value} {L : List ByteArray} {w : World} (h : OwnT e base v L w) (h0 : L ≠ []) : ∃ g cap, v = .slice (some ⟨g, 0, none⟩) L.length cap ∧ L.length ≤ cap ∧ base ≤ g ∧ OutStr g L.length L.length (fun i => L.getD i ByteArray.empty) w := by
  obtain ⟨a, cap, hv, _, hc⟩ := ownW_row (show OwnW e 1 base v L.length (tcells L) w from h)
  rcases hc with ⟨_, _, e0⟩ | ⟨g, rfl, hg, hgl, hcap, hf⟩
  · exact absurd (List.eq_nil_of_length_eq_zero e0) h0
  · subst hv
    exact ⟨g, cap, rfl, hcap, hg, hgl, fun i hi => ⟨⟨_, ownT_at h hi, fun _ => rfl⟩, hf i⟩⟩
theorem RowT.of_str {a : Option Addr} {n : Nat} {f : Nat → ByteArray} {w : World} (h : RowStr a n f w) : RowT a (listS n f) w := by
  intro i hi
  rw [listS_len] at hi
  obtain ⟨b, off, ha, hb, h0⟩ := h i hi
  refine ⟨b, off, ha, hb, ?_⟩
  rw [h0, List.getD_eq_getElem?_getD]
  unfold listS
  rw [List.getElem?_map, List.getElem?_range hi]
  rfl
theorem listS_at {n : Nat} {f : Nat → ByteArray} {i : Nat} (h : i < n) : (listS n f).getD i ByteArray.empty = f i := by
  rw [List.getD_eq_getElem?_getD]
  unfold listS
  rw [List.getElem?_map, List.getElem?_range h]
  rfl
theorem ownT_outS {e : TypeId} {base : Nat} {v : Value} {n : Nat} {f : Nat → ByteArray} {w : World} (h : OwnT e base v (listS n f) w) (h0 : 1 ≤ n) : ∃ g cap, v = .slice (some ⟨g, 0, none⟩) n cap ∧ n ≤ cap ∧ base ≤ g ∧ OutStr g n n f w := by
  have hl := listS_len n f
  obtain ⟨g, cap, hv, hc, hg, hO⟩ := ownT_out h (fun e => by rw [e] at hl; simp at hl; omega)
  rw [hl] at hv hc hO
  refine ⟨g, cap, hv, hc, hg, hO.1, fun i hi => ?_⟩
  obtain ⟨⟨x, h1, h2⟩, h3⟩ := hO.2 i hi
  exact ⟨⟨x, h1, fun _ => (h2 hi).trans (listS_at hi)⟩, h3⟩

/-- A leaf, the block of its path, and the room in it. -/
structure El15 where
  t : Lf
  x : Nat
  k : Nat
def elf (e : El15) : List Value := [.slice (some ⟨e.x, 0, none⟩) e.t.n e.k, .string e.t.v]
def efs : List El15 → List Value
  | [] => []
  | e :: L => elf e ++ efs L
theorem efs_app : ∀ (L : List El15) (e : El15), efs (L ++ [e]) = efs L ++ elf e
  | [], e => by simp [efs]
  | x :: L, e => by simp [efs, efs_app L e]
theorem efs_at : ∀ {L : List El15} {i : Nat} (h : i < L.length), (efs L)[i * 2]? = some (.slice (some ⟨(L[i]).x, 0, none⟩) (L[i]).t.n (L[i]).k) ∧ (efs L)[i * 2 + 1]? = some (.string (L[i]).t.v)
  | [], i, h => absurd h (Nat.not_lt_zero _)
  | x :: L, 0, _ => ⟨rfl, rfl⟩
  | x :: L, i + 1, h => by
    have hi : i < L.length := by simpa using h
    obtain ⟨h1, h2⟩ := efs_at hi
    have e : efs (x :: L) = .slice (some ⟨x.x, 0, none⟩) x.t.n x.k :: .string x.t.v :: efs L := rfl
    rw [e]
    exact ⟨by rw [show (i + 1) * 2 = i * 2 + 1 + 1 by omega]; simpa using h1, by rw [show (i + 1) * 2 + 1 = i * 2 + 1 + 1 + 1 by omega]; simpa using h2⟩
theorem elf_one (e : El15) : ∀ u ∈ elf e, u.oneCell' = true := by
  intro u hu
  simp only [elf, List.mem_cons, List.not_mem_nil, or_false] at hu
  rcases hu with rfl | rfl <;> rfl
/-- The leaf at a place. -/
def TF (L : List Lf) (i : Nat) : Lf := L.getD i lf0
theorem TF_eq {L : List Lf} {i : Nat} (h : i < L.length) : TF L i = L[i] := by
  unfold TF
  rw [List.getD_eq_getElem?_getD, List.getElem?_eq_getElem h]
  rfl
/-- The first n leaves. -/
def lsF (n : Nat) (T : Nat → Lf) : List Lf := (List.range n).map T
theorem lsF_succ (n : Nat) (T : Nat → Lf) : lsF (n + 1) T = lsF n T ++ [T n] := by simp [lsF, List.range_succ]
theorem lsF_len (n : Nat) (T : Nat → Lf) : (lsF n T).length = n := by simp [lsF]
theorem lsF_at {n : Nat} {T : Nat → Lf} {i : Nat} (h : i < n) : TF (lsF n T) i = T i := by
  rw [TF_eq (by rw [lsF_len]; exact h)]
  simp [lsF]
end Go.Proofs.Ytddebnokdcajbaa
