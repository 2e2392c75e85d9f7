/- Offers put in among others, in memory: cells that are shifted, copies of structs. -/
import Derived.Test.YtgkjokobbeahfaaMemU2
import Derived.Test.YtgkjokobbeahfaaI7i
import Derived.Lib.Overlaps
import Derived.Laws.IdiomCopy
namespace Go.Proofs.Ytgkjokobbeahfaa
open Go.RowKit

/-- A copy of k elements of seven cells: all is read before anything is written. -/
theorem run_copy_7 {P : Program} (w : World) (dT sT ty elem : TypeId) (b o dLen dCap : Nat) (a : Addr) (sLen sCap k : Nat) (cs : List Value)
    (hu : P.underlying dT = some (.slice elem)) (hs : (P.info? elem).map (·.size) = some 7) (hk : k = Nat.min sLen dLen) (hn : cs.length = k * 7)
    (hsrc : ∀ j v, cs[j]? = some v → w.cell? (a.add j) = some v) (hc : ∀ j, j < cs.length → (w.cell? ⟨b, o + j, none⟩).isSome = true) (hf : ∀ j, j < cs.length → w.frozen? ⟨b, o + j, none⟩ = false) (h1 : ∀ v ∈ cs, v.oneCell' = true) :
    (Builtin.copy_ #[dT, sT] ty #[.slice (some ⟨b, o, none⟩) dLen dCap, .slice (some a) sLen sCap]).run P w = .ok (goInt k) (w.setCells b o cs) := by
  have hl := run_loadCells_list (P := P) w a cs hsrc
  have hst := run_storeCells_cells (P := P) b o cs 0 w (by simpa using hc) (by simpa using hf) h1
  rw [hn] at hl
  cases hq : P.info? elem with
  | none => simp [hq] at hs
  | some i =>
    have hi : i.size = 7 := by simpa [hq] using hs
    simp [Builtin.copy_, run_underlying hu, Builtin.lenOf, Builtin.firstCells, sizeOf, typeInfo, hq, hi, ← hk, hl, hst]
theorem ins_mutS {W : World} {g p : Nat} {cs xs : List Value} (hg : g < W.heap.size) (hp : p ≤ cs.length) (h2 : ∀ j v, j < p → cs[j]? = some v → W.cell? ⟨g, j, none⟩ = some v) (h3 : ∀ j v, xs[j]? = some v → W.cell? ⟨g, p + j, none⟩ = some v)
    (h4 : ∀ k v, (cs.drop p)[k]? = some v → W.cell? ⟨g, p + xs.length + k, none⟩ = some v) (h5 : ∀ j, j < cs.length + xs.length → W.frozen? ⟨g, j, none⟩ = false) : Mut W g (cs.take p ++ (xs ++ cs.drop p)) := by
  refine ⟨hg, fun j v hv => ?_, fun j hj => h5 j (by simp at hj; omega)⟩
  by_cases h : j < p
  · rw [List.getElem?_append_left (by simp; omega), List.getElem?_take_of_lt h] at hv
    exact h2 j v h hv
  · rw [List.getElem?_append_right (by simp; omega), List.length_take, Nat.min_eq_left hp] at hv
    by_cases hx : j - p < xs.length
    · rw [List.getElem?_append_left hx] at hv
      have := h3 _ _ hv
      rwa [show p + (j - p) = j by omega] at this
    · rw [List.getElem?_append_right (by omega)] at hv
      have := h4 _ _ hv
      rwa [show p + xs.length + (j - p - xs.length) = j by omega] at this
theorem some_setCells {w : World} {g o : Nat} {vs : List Value} {n : Nat} (hsp : ∀ j, j < n → (w.cell? ⟨g, j, none⟩).isSome = true) (ho : o + vs.length ≤ n) : ∀ j, j < n → ((w.setCells g o vs).cell? ⟨g, j, none⟩).isSome = true := by
  intro j hj
  by_cases h1 : j < o
  · rw [World.cell?_setCells_out _ _ _ _ _ (fun _ _ => .inl h1)]; exact hsp j hj
  · by_cases h2 : j < o + vs.length
    · have := World.cell?_setCells_in g vs o w (fun k hk => hsp _ (by omega)) (j - o) (by omega)
      rw [show o + (j - o) = j by omega] at this
      rw [this]; rfl
    · rw [World.cell?_setCells_out _ _ _ _ _ (fun _ _ => .inr (by show o + vs.length ≤ j; omega))]; exact hsp j hj
/-- The shift in place. -/
theorem ins_shiftS {w : World} {g p : Nat} {cs xs : List Value} (hg : g < w.heap.size) (hp : p ≤ cs.length) (hcs : ∀ j v, cs[j]? = some v → w.cell? ⟨g, j, none⟩ = some v) (hsp : ∀ j, j < cs.length + xs.length → (w.cell? ⟨g, j, none⟩).isSome = true) (hfz : ∀ j, j < cs.length + xs.length → w.frozen? ⟨g, j, none⟩ = false) :
    Mut ((w.setCells g (p + xs.length) (cs.drop p)).setCells g p xs) g (cs.take p ++ (xs ++ cs.drop p)) := by
  have hdl : (cs.drop p).length = cs.length - p := by simp
  have hs1 := some_setCells (g := g) (o := p + xs.length) (vs := cs.drop p) hsp (by omega)
  refine ins_mutS (by rw [size_setCells, size_setCells]; exact hg) hp (fun j v h hv => ?_) (fun j v hv => ?_) (fun k v hv => ?_) (fun j hj => by rw [World.frozen?_setCells, World.frozen?_setCells]; exact hfz j hj)
  · rw [World.cell?_setCells_out _ _ _ _ _ (fun _ _ => .inl h), World.cell?_setCells_out _ _ _ _ _ (fun _ _ => .inl (show j < p + xs.length by omega))]
    exact hcs j v hv
  · have hk : j < xs.length := (List.getElem?_eq_some_iff.1 hv).1
    rw [World.cell?_setCells_in g xs p _ (fun k hk => hs1 _ (by omega)) j hk, ← hv, List.getElem?_eq_getElem hk]
  · have hk : k < (cs.drop p).length := (List.getElem?_eq_some_iff.1 hv).1
    rw [World.cell?_setCells_out _ _ _ _ _ (fun _ _ => .inr (show p + xs.length ≤ p + xs.length + k by omega))]
    rw [World.cell?_setCells_in g (cs.drop p) (p + xs.length) w (fun k hk => hsp _ (by omega)) k hk, ← hv, List.getElem?_eq_getElem hk]
theorem uc_take (L : List Oe) (i : Nat) : (ucells L).take (i * 7) = ucells (L.take i) := by
  induction L generalizing i with
  | nil => simp [ucells]
  | cons e L ih =>
    cases i with
    | zero => simp [ucells]
    | succ i =>
      rw [uc_cons, show (i + 1) * 7 = i * 7 + 7 by omega, List.take_succ_cons]
      simp only [List.take_succ_cons, ih, uc_cons]
theorem uc_drop (L : List Oe) (i : Nat) : (ucells L).drop (i * 7) = ucells (L.drop i) := by
  induction L generalizing i with
  | nil => simp [ucells]
  | cons e L ih =>
    cases i with
    | zero => simp
    | succ i =>
      rw [uc_cons, show (i + 1) * 7 = i * 7 + 7 by omega]
      simp only [List.drop_succ_cons, ih]
theorem uc_ins (L : List Oe) (i : Nat) (q : Oe) : (ucells L).take (i * 7) ++ (encU q ++ (ucells L).drop (i * 7)) = ucells (L.take i ++ q :: L.drop i) := by
  rw [uc_take, uc_drop, uc_app]
  rfl
/-- What an owned list's block tells. -/
theorem own_partsU {base g cap : Nat} {L : List Oe} {w : World} (h : OwnU base (.slice (some ⟨g, 0, none⟩) L.length cap) L w) :
    base ≤ g ∧ g < w.heap.size ∧ L.length ≤ cap ∧ cap ≤ maxLen ∧ (∀ j v, (ucells L)[j]? = some v → w.cell? ⟨g, j, none⟩ = some v) ∧ (∀ j, j < cap * 7 → (w.cell? ⟨g, j, none⟩).isSome = true) ∧ (∀ j, w.frozen? ⟨g, j, none⟩ = false) ∧ w.shape? g = some (39, cap * 7) := by
  rcases h.2 with ⟨h1, _⟩ | ⟨g', cap', cur, hv, hb, hg, h1, h2, h3, h4⟩
  · exact absurd h1 (by simp)
  · simp at hv
    obtain ⟨rfl, rfl⟩ := hv
    obtain ⟨a, c, hv2, hrow, hc⟩ := ownU_row h
    simp at hv2
    obtain ⟨rfl, rfl⟩ := hv2
    refine ⟨hb, (Array.getElem?_eq_some_iff.1 hg).1, h1, h2, fun j v hj => ?_, fun j hj => ?_, fun j => ?_, ?_⟩
    · have := hrow.cells j v hj
      rwa [Addr.add_lit, Nat.zero_add] at this
    · simp [World.cell?, hg, h3, hj]
    · simp [World.frozen?, hg]
    · simp [World.shape?, hg, h3]
theorem ownU_mut {base g cap : Nat} {L : List Oe} {w : World} (h : OwnU base (.slice (some ⟨g, 0, none⟩) L.length cap) L w) : Mut w g (ucells L) := by
  obtain ⟨_, hg, _, _, hc, _, hf, _⟩ := own_partsU h
  exact ⟨hg, hc, fun i _ => hf i⟩
theorem ov_false (vb g o la ca lb cb : Nat) (w : World) (hne : vb ≠ g) (tA tB : TypeId) (kA kB : Nat) (hsa : w.shape? vb = some (tA, kA)) (hsb : w.shape? g = some (tB, kB)) (hkB : kB ≠ 0) (hfa : w.frozen? ⟨vb, 0, none⟩ = false) (hfe : w.frozen? ⟨vb, kA, none⟩ = false) :
    (callFunc 128 #[.slice (some ⟨vb, 0, none⟩) la ca, .slice (some ⟨g, o, none⟩) lb cb]).run Try.prog w = .ok (.value (.bool false)) w := by
  rw [run_callFunc_extern Try.func128 (by kernel_rfl) (by kernel_rfl) (by kernel_rfl) (e := Extern.SlicesOverlaps.overlaps #[25, 25] #[4]) (by kernel_rfl),
    Lib.run_overlaps_apart w 25 4 39 Try.underlying25 7 Try.sizeOf39 ⟨vb, 0, none⟩ ⟨g, o, none⟩ la ca lb cb hne tA tB kA kB hsa hsb hkB hfa hfe]
  rfl
end Go.Proofs.Ytgkjokobbeahfaa
