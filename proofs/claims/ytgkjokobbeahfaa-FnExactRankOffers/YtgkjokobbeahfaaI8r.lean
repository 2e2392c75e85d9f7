/- slices.SortFunc at offers: what the sort leaves. -/
import Derived.Test.YtgkjokobbeahfaaShelf8
import Derived.Test.YtgkjokobbeahfaaI8a
import Derived.Test.YtgkjokobbeahfaaRank8
namespace Go.Proofs.Ytgkjokobbeahfaa
open Go.RowKit Go.Sort

theorem Drn.grown {w w' : World} (h : Drn w w') : ∃ q os, w' = grow (w.drewN q) os := by
  obtain ⟨⟨d, os⟩, e⟩ := regrown_of_below h.1
  have h2 : w'.drawn = d := by rw [e]; rfl
  have h3 := h.2
  rw [h2] at h3
  refine ⟨d - w.drawn, os, ?_⟩
  rw [e]
  have e2 : redrawn w d = w.drewN (d - w.drawn) := by
    unfold redrawn World.drewN
    congr 1
    omega
  show grow (redrawn w d) os = _
  rw [e2]
theorem extract_all {α : Type} (d : Array α) {n : Nat} (h : d.size = n) : d.extract 0 n = d := by
  subst h
  simp
/-- An offer by its place in a list. -/
def encO (L : List Oe) {n : Nat} (i : Fin n) : List Value := encU (uAt L i.1)
def cfO (L : List Oe) {n : Nat} (i j : Fin n) : Int := cmpO (uAt L i.1).t (uAt L j.1).t
theorem ltO {L : List Oe} {n : Nat} (hd : ∀ i j, i < n → j < n → i ≠ j → (uAt L i).t.pe ≠ (uAt L j).t.pe) (i j : Fin n) : ltOf (cfO L) i j = true ↔ ltL (uAt L i.1).t (uAt L j.1).t := by
  show decide (cfO L i j < 0) = true ↔ _
  rw [decide_eq_true_eq]
  unfold cfO
  by_cases e : i = j
  · subst e
    rw [cmpO_self rfl]
    unfold ltL
    omega
  · exact cmpO_lt (hd i.1 j.1 i.2 j.2 (fun h => e (Fin.ext h)))
theorem swoO {L : List Oe} {n : Nat} (hd : ∀ i j, i < n → j < n → i ≠ j → (uAt L i).t.pe ≠ (uAt L j).t.pe) : SWO (ltOf (cfO L (n := n))) where
  irrefl x := by
    cases h : ltOf (cfO L) x x with
    | false => rfl
    | true => rw [ltO hd] at h; unfold ltL at h; omega
  trans x y z h1 h2 := by
    rw [ltO hd] at *
    unfold ltL at *
    omega
  ntrans x y z h1 h2 := by
    have n1 : ¬ ltOf (cfO L) x y = true := by rw [h1]; simp
    have n2 : ¬ ltOf (cfO L) y z = true := by rw [h2]; simp
    cases h : ltOf (cfO L) x z with
    | false => rfl
    | true => rw [ltO hd] at h n1 n2; unfold ltL at *; omega
theorem sort_belowO {L : List Oe} {n base blk off m : Nat} [Inhabited (Fin n)] {w : World} {d : Array (Fin n)} {os : Array Obj} (hb : base ≤ blk) (hl : blk < w.heap.size) : Below base w (sortWorldK (encO L) 7 w blk off m d os) := by
  refine ⟨rfl, rfl, rfl, ?_, fun k hk => ?_⟩
  · simp [sortWorldK, putRowK, putRow, mapBlock, grow]
  · simp only [sortWorldK, putRowK, putRow, mapBlock, grow]
    rw [Array.getElem?_append_left (by simp; omega), Array.getElem?_modify, if_neg (by omega)]
    rfl
set_option maxRecDepth 100000 in
theorem i_sortO (base g cap : Nat) (L : List Oe) (w : World) (hb : base ≤ g) (hlen : L.length ≤ 1048576) (h0 : 0 < L.length) (ho : OwnU base (.slice (some ⟨g, 0, none⟩) L.length cap) L w) (hgl : g < w.heap.size) (hd : ∀ i j, i < L.length → j < L.length → i ≠ j → (uAt L i).t.pe ≠ (uAt L j).t.pe) :
    Calls Try.prog 76 #[.slice (some ⟨g, 0, none⟩) L.length cap, .func (.func 71) #[] #[]] w fun e w' =>
      e = .returned (.tuple #[]) ∧ ∃ S : List Oe, S.Perm L ∧ S.Pairwise (fun a b => ¬ cmpO b.t a.t < 0) ∧ S.length = L.length ∧ RowU (some ⟨g, 0, none⟩) S w' ∧ Below base w w' := by
  haveI : Inhabited (Fin L.length) := ⟨⟨0, h0⟩⟩
  obtain ⟨d, hd0⟩ : ∃ d : Array (Fin L.length), d = Array.ofFn (fun i => i) := ⟨_, rfl⟩
  have hds : d.size = L.length := by rw [hd0]; simp
  have hdi : ∀ i (hi : i < L.length), d[i]! = ⟨i, hi⟩ := by
    intro i hi
    rw [getElem!_pos d i (by omega)]
    simp [hd0]
  have hdl : d.toList.map (fun i => uAt L i.1) = L := by
    apply List.ext_getElem
    · simp [hds]
    · intro i h1 h2
      simp only [List.getElem_map, Array.getElem_toList]
      have := hdi i h2
      rw [getElem!_pos d i (by omega)] at this
      rw [this, uAt_eq h2]
  have hH : HoldsK (encO L) 7 w g 0 d := by
    intro j hj
    simp only [size_flatK] at hj
    have hi : j / 7 < L.length := by omega
    obtain ⟨⟨h0, h1, h2, h3, h4, h5, h6⟩, hf⟩ := ownU_at ho hi
    refine ⟨?_, hf _⟩
    rw [get_flatK (encO L) 7 d j hj, hdi _ hi]
    rcases (show j = j / 7 * 7 ∧ j % 7 = 0 ∨ j = j / 7 * 7 + 1 ∧ j % 7 = 1 ∨ j = j / 7 * 7 + 2 ∧ j % 7 = 2 ∨ j = j / 7 * 7 + 3 ∧ j % 7 = 3 ∨ j = j / 7 * 7 + 4 ∧ j % 7 = 4 ∨ j = j / 7 * 7 + 5 ∧ j % 7 = 5 ∨ j = j / 7 * 7 + 6 ∧ j % 7 = 6 by omega) with ⟨e, em⟩ | ⟨e, em⟩ | ⟨e, em⟩ | ⟨e, em⟩ | ⟨e, em⟩ | ⟨e, em⟩ | ⟨e, em⟩
    · rw [em, Nat.zero_add]; rw [← e] at h0; exact h0
    · rw [em, Nat.zero_add]; rw [← e] at h1; exact h1
    · rw [em, Nat.zero_add]; rw [← e] at h2; exact h2
    · rw [em, Nat.zero_add]; rw [← e] at h3; exact h3
    · rw [em, Nat.zero_add]; rw [← e] at h4; exact h4
    · rw [em, Nat.zero_add]; rw [← e] at h5; exact h5
    · rw [em, Nat.zero_add]; rw [← e] at h6; exact h6
  have eg : ∀ args w, (callFunc 71 args).run Try.prog w = .ok (.enter 71 args) w := Go.Proofs.enters_of Try.func71 (by kernel_rfl) rfl
  have hcmp : CmpLays Try.prog 71 #[] (encO L (n := L.length)) 7 (cfO L (n := L.length)) g 0 d.size w := fun m os dk _ x y => (i_orderO _ _ _ _ _ _ _ _ _ _ _).mono fun e w' h => ⟨h.1, h.2.grown⟩
  have hcon := AnyQ.slices_SortFunc Try.laysSort 7 Try.isAgg39 Try.sizeOf39 (encO L (n := L.length)) (fun _ => rfl) (fun x v hv => by simp [encO, encU] at hv; rcases hv with rfl | rfl | rfl | rfl | rfl | rfl | rfl <;> rfl) (cfO L (n := L.length)) (swoO hd) 71 #[] g 0 cap d w eg hcmp hH hgl (by omega)
  rw [hds] at hcon
  refine Calls.mono hcon ?_
  rintro e w' ⟨he, d', m, os, hp, hs, rfl⟩
  have hsz : d'.size = d.size := hp.1
  refine ⟨he, d'.toList.map (fun i => uAt L i.1), ?_, ?_, ?_, ?_, sort_belowO hb hgl⟩
  · have h1 := hp.2.2
    have e1 : d'.extract 0 L.length = d' := extract_all d' (hsz.trans hds)
    have e2 : d.extract 0 L.length = d := extract_all d hds
    rw [e1, e2] at h1
    have h2 := h1.map (fun i => uAt L i.1)
    rw [hdl] at h2
    exact h2
  · rw [List.pairwise_map, List.pairwise_iff_getElem]
    intro i j hi hj hij
    have h1 := hs i j (Nat.zero_le _) hij (by simp at hj; omega)
    rw [getElem!_pos d' i (by simpa using hi), getElem!_pos d' j (by simpa using hj)] at h1
    have h2 : decide (cfO L d'[j] d'[i] < 0) = false := h1
    simpa [cfO] using of_decide_eq_false h2
  · simp
    omega
  · have hsw : SWK (encO L) 7 w g 0 d' (sortWorldK (encO L) 7 w g 0 m d' os) := ⟨m, os, rfl⟩
    have hh := hsw.holds hgl hH hsz
    intro i hi
    have hi' : i < d'.size := by simpa using hi
    have e0 : uAt (d'.toList.map (fun i => uAt L i.1)) i = uAt L (d'[i]!).1 := by
      rw [uAt_eq hi]
      simp only [List.getElem_map, Array.getElem_toList]
      rw [getElem!_pos d' i hi']
    have c0 := (hh (i * 7) (by simp only [size_flatK]; omega)).1
    rw [get_flatK (encO L) 7 d' _ (by omega), show (i * 7) / 7 = i by omega, show (i * 7) % 7 = 0 by omega] at c0
    have c1 := (hh (i * 7 + 1) (by simp only [size_flatK]; omega)).1
    rw [get_flatK (encO L) 7 d' _ (by omega), show (i * 7 + 1) / 7 = i by omega, show (i * 7 + 1) % 7 = 1 by omega] at c1
    have c2 := (hh (i * 7 + 2) (by simp only [size_flatK]; omega)).1
    rw [get_flatK (encO L) 7 d' _ (by omega), show (i * 7 + 2) / 7 = i by omega, show (i * 7 + 2) % 7 = 2 by omega] at c2
    have c3 := (hh (i * 7 + 3) (by simp only [size_flatK]; omega)).1
    rw [get_flatK (encO L) 7 d' _ (by omega), show (i * 7 + 3) / 7 = i by omega, show (i * 7 + 3) % 7 = 3 by omega] at c3
    have c4 := (hh (i * 7 + 4) (by simp only [size_flatK]; omega)).1
    rw [get_flatK (encO L) 7 d' _ (by omega), show (i * 7 + 4) / 7 = i by omega, show (i * 7 + 4) % 7 = 4 by omega] at c4
    have c5 := (hh (i * 7 + 5) (by simp only [size_flatK]; omega)).1
    rw [get_flatK (encO L) 7 d' _ (by omega), show (i * 7 + 5) / 7 = i by omega, show (i * 7 + 5) % 7 = 5 by omega] at c5
    have c6 := (hh (i * 7 + 6) (by simp only [size_flatK]; omega)).1
    rw [get_flatK (encO L) 7 d' _ (by omega), show (i * 7 + 6) / 7 = i by omega, show (i * 7 + 6) % 7 = 6 by omega] at c6
    rw [e0]
    exact ⟨g, 0, rfl, hsw.lt hgl, c0, c1, c2, c3, c4, c5, c6⟩
end Go.Proofs.Ytgkjokobbeahfaa
