/- slices.SortFunc at leaves: what the sort leaves. -/
import Derived.Test.YtcfmnfoognopnaaShelf15
import Derived.Test.YtcfmnfoognopnaaI15b
import Derived.Test.YtcfmnfoognopnaaOrd15
namespace Go.Proofs.Ytcfmnfoognopnaa
open Go.RowKit Go.Sort

def DrnF (w w' : World) : Prop := Below w.heap.size w w' ∧ w.drawn ≤ w'.drawn
theorem DrnF.refl (w : World) : DrnF w w := ⟨Below.refl _ _, Nat.le_refl _⟩
theorem DrnF.trans {a b c : World} (h : DrnF a b) (k : DrnF b c) : DrnF a c := ⟨h.1.trans (k.1.mono h.1.size), Nat.le_trans h.2 k.2⟩
theorem DrnF.box (w : World) (o : Obj) : DrnF w (w.alloc o) := ⟨below_box (Below.refl _ _), Nat.le_refl _⟩
theorem DrnF.box2 (w : World) (o o' : Obj) : DrnF w ((w.alloc o).alloc o') := (DrnF.box w o).trans (DrnF.box _ o')
theorem DrnF.grown {w w' : World} (h : DrnF w w') : ∃ q os, w' = grow (w.drewN q) os := by
  obtain ⟨⟨d, os⟩, e⟩ := regrown_of_below h.1
  have h2 : w'.drawn = d := by rw [e]; rfl
  have h3 := h.2
  rw [h2] at h3
  refine ⟨d - w.drawn, os, ?_⟩
  rw [e]
  have e2 : redrawn w d = w.drewN (d - w.drawn) := by
    unfold redrawn World.drewN
    congr 1
    omega
  show grow (redrawn w d) os = _
  rw [e2]
theorem extract_allF {α : Type} (d : Array α) {n : Nat} (h : d.size = n) : d.extract 0 n = d := by
  subst h
  simp
def al0 : Al15 := ⟨lf0, none, 0⟩
/-- The leaf at a place. -/
def aAt (M : List Al15) (i : Nat) : Al15 := M.getD i al0
theorem aAt_eq {M : List Al15} {i : Nat} (h : i < M.length) : aAt M i = M[i] := by
  unfold aAt
  rw [List.getD_eq_getElem?_getD, List.getElem?_eq_getElem h]
  rfl
/-- A leaf by its place in a list. -/
def encF (L : List Al15) {n : Nat} (i : Fin n) : List Value := alf (aAt L i.1)
noncomputable def cfF (L : List Al15) {n : Nat} (i j : Fin n) : Int := cmpW (aAt L i.1).t.n (aAt L i.1).t.p (aAt L j.1).t.n (aAt L j.1).t.p
theorem ltF {L : List Al15} {n : Nat} (i j : Fin n) : ltOf (cfF L) i j = true ↔ LtL (aAt L i.1).t (aAt L j.1).t := by
  show decide (cfF L i j < 0) = true ↔ _
  rw [decide_eq_true_eq]
  exact cmpW_neg
theorem swoF {L : List Al15} {n : Nat} : SWO (ltOf (cfF L (n := n))) where
  irrefl x := by
    cases h : ltOf (cfF L) x x with
    | false => rfl
    | true => rw [ltF] at h; exact absurd h (ltP_irrefl _ _)
  trans x y z h1 h2 := by
    rw [ltF] at *
    exact ltP_trans h1 h2
  ntrans x y z h1 h2 := by
    have n1 : ¬ ltOf (cfF L) x y = true := by rw [h1]; simp
    have n2 : ¬ ltOf (cfF L) y z = true := by rw [h2]; simp
    cases h : ltOf (cfF L) x z with
    | false => rfl
    | true =>
      rw [ltF] at h n1 n2
      rcases ltP_co (m := (aAt L y.1).t.n) (q := (aAt L y.1).t.p) h with g | g
      · exact absurd g n1
      · exact absurd g n2
theorem sort_belowF {L : List Al15} {n base blk off m : Nat} [Inhabited (Fin n)] {w : World} {d : Array (Fin n)} {os : Array Obj} (hb : base ≤ blk) (hl : blk < w.heap.size) : Below base w (sortWorldK (encF L) 2 w blk off m d os) := by
  refine ⟨rfl, rfl, rfl, ?_, fun k hk => ?_⟩
  · simp [sortWorldK, putRowK, putRow, mapBlock, grow]
  · simp only [sortWorldK, putRowK, putRow, mapBlock, grow]
    rw [Array.getElem?_append_left (by simp; omega), Array.getElem?_modify, if_neg (by omega)]
    rfl
set_option maxRecDepth 100000 in
set_option maxHeartbeats 1600000 in
theorem i_orderD (a a' : Option Addr) (c c' : Nat) (s t : Lf) (w : World) (hn : s.n ≤ 1048576) (hR : RowStr a s.n s.p w) (hQ : RowStr a' t.n t.p w) :
    Calls Try.prog 47 #[.agg #[.slice a s.n c, .string s.v], .agg #[.slice a' t.n c', .string t.v]] w fun e w' => e = .returned (.int .i64 (cmpW s.n s.p t.n t.p)) ∧ DrnF w w' := by
  have C := hide (fun w R Q => i_cmpP a a' s.n t.n c c' s.p t.p w hn R Q)
  generalize cmpW s.n s.p t.n t.p = r at *
  have e0 := hide (DrnF.box2 w (.cells #[.slice a s.n c, .string s.v] 63) (.cells #[.slice a' t.n c', .string t.v] 63))
  have hR := hR.below e0.out.1
  have hQ := hQ.below e0.out.1
  obtain ⟨sn, sp, sv⟩ := s
  obtain ⟨tn, tp, tv⟩ := t
  dsimp only at *
  go_enter Try.func47, Try.ntmps47
  go_wp2_with fail
  refine (C.out _ hR hQ).mono ?_
  rintro e w1 ⟨rfl, rfl⟩
  go_wp2_with fail
  go_ret
  exact ⟨rfl, e0.out⟩
set_option maxRecDepth 100000 in
theorem i_sortF (g cap : Nat) (L : List Al15) (w0 w : World) (hb : w0.heap.size ≤ g) (hB : Below w0.heap.size w0 w) (hlen : L.length ≤ 1048576) (h0 : 0 < L.length) (ho : AlF w0.heap.size (.slice (some ⟨g, 0, none⟩) L.length cap) L w0 w) (hgl : g < w.heap.size) (hn : ∀ e, e ∈ L → e.t.n ≤ 1048576) :
    Calls Try.prog 46 #[.slice (some ⟨g, 0, none⟩) L.length cap, .func (.func 47) #[] #[]] w fun e w' =>
      e = .returned (.tuple #[]) ∧ ∃ S : List Al15, S.Perm L ∧ S.Pairwise (fun a b => ¬ LtL b.t a.t) ∧ S.length = L.length ∧ RowW (some ⟨g, 0, none⟩) (afs S) w' ∧ Below w0.heap.size w w' := by
  haveI : Inhabited (Fin L.length) := ⟨⟨0, h0⟩⟩
  obtain ⟨d, hd0⟩ : ∃ d : Array (Fin L.length), d = Array.ofFn (fun i => i) := ⟨_, rfl⟩
  have hds : d.size = L.length := by rw [hd0]; simp
  have hdi : ∀ i (hi : i < L.length), d[i]! = ⟨i, hi⟩ := by
    intro i hi
    rw [getElem!_pos d i (by omega)]
    simp [hd0]
  have hdl : d.toList.map (fun i => aAt L i.1) = L := by
    apply List.ext_getElem
    · simp [hds]
    · intro i h1 h2
      simp only [List.getElem_map, Array.getElem_toList]
      have := hdi i h2
      rw [getElem!_pos d i (by omega)] at this
      rw [this, aAt_eq h2]
  obtain ⟨a9, cap9, hv9, hr9, hc9⟩ := ownW_row ho.1
  simp only [Value.slice.injEq, true_and] at hv9
  obtain ⟨rfl, rfl⟩ := hv9
  have hfz : ∀ j, w.frozen? ⟨g, j, none⟩ = false := by
    rcases hc9 with ⟨h, _⟩ | ⟨g', hg', _, _, _, hf⟩
    · cases h
    · simp only [Option.some.injEq, Addr.mk.injEq, and_true] at hg'
      obtain ⟨rfl, _⟩ := hg'
      exact hf
  have hcell : ∀ j u, (afs L)[j]? = some u → w.cell? ⟨g, j, none⟩ = some u := by
    intro j u hu
    obtain ⟨b', o', he, _, c0⟩ := hr9 j u hu
    simp only [Option.some.injEq, Addr.mk.injEq, and_true] at he
    obtain ⟨rfl, rfl⟩ := he
    rw [Nat.zero_add] at c0
    exact c0
  have hH : HoldsK (encF L) 2 w g 0 d := by
    intro j hj
    simp only [size_flatK] at hj
    have hi : j / 2 < L.length := by omega
    obtain ⟨e1, e2⟩ := afs_at hi
    refine ⟨?_, hfz _⟩
    rw [get_flatK (encF L) 2 d j hj, hdi _ hi, Nat.zero_add]
    unfold encF
    rw [aAt_eq hi]
    rcases (show j = j / 2 * 2 ∧ j % 2 = 0 ∨ j = j / 2 * 2 + 1 ∧ j % 2 = 1 by omega) with ⟨e, em⟩ | ⟨e, em⟩
    · rw [em]; rw [← e] at e1; exact hcell _ _ e1
    · rw [em]; rw [← e] at e2; exact hcell _ _ e2
  have eg : ∀ args w, (callFunc 47 args).run Try.prog w = .ok (.enter 47 args) w := Go.Proofs.enters_of Try.func47 (by kernel_rfl) rfl
  have hrow : ∀ i : Fin L.length, RowStr (aAt L i.1).a (aAt L i.1).t.n (aAt L i.1).t.p w0 ∧ (aAt L i.1).t.n ≤ 1048576 := by
    intro i
    rw [aAt_eq i.2]
    exact ⟨(ho.2 _ (List.getElem_mem i.2)).2, hn _ (List.getElem_mem i.2)⟩
  have hcmp : CmpLays Try.prog 47 #[] (encF L (n := L.length)) 2 (cfF L (n := L.length)) g 0 d.size w := fun m os dk _ x y => by
    have hBB : Below w0.heap.size w0 (sortWorldK (encF L) 2 w g 0 m dk os) := hB.trans (sort_belowF hb hgl)
    exact (i_orderD (aAt L x.1).a (aAt L y.1).a (aAt L x.1).k (aAt L y.1).k (aAt L x.1).t (aAt L y.1).t _ (hrow x).2 ((hrow x).1.below hBB) ((hrow y).1.below hBB)).mono fun e w' h => ⟨h.1, h.2.grown⟩
  have hcon := AnyQ.slices_SortFunc Try.laysSort 2 Try.isAgg63 Try.sizeOf63 (encF L (n := L.length)) (fun _ => rfl) (fun x v hv => by simp [encF, alf] at hv; rcases hv with rfl | rfl <;> rfl) (cfF L (n := L.length)) swoF 47 #[] g 0 cap d w eg hcmp hH hgl (by omega)
  rw [hds] at hcon
  refine Calls.mono hcon ?_
  rintro e w' ⟨he, d', m, os, hp, hs, rfl⟩
  have hsz : d'.size = d.size := hp.1
  refine ⟨he, d'.toList.map (fun i => aAt L i.1), ?_, ?_, ?_, ?_, sort_belowF hb hgl⟩
  · have h1 := hp.2.2
    have e1 : d'.extract 0 L.length = d' := extract_allF d' (hsz.trans hds)
    have e2 : d.extract 0 L.length = d := extract_allF d hds
    rw [e1, e2] at h1
    have h2 := h1.map (fun i => aAt L i.1)
    rw [hdl] at h2
    exact h2
  · rw [List.pairwise_map, List.pairwise_iff_getElem]
    intro i j hi hj hij hlt
    have h1 := hs i j (Nat.zero_le _) hij (by simp at hj; omega)
    rw [getElem!_pos d' i (by simpa using hi), getElem!_pos d' j (by simpa using hj)] at h1
    have h2 : ltOf (cfF L) d'[j] d'[i] = true := ltF _ _ |>.2 (by simpa using hlt)
    rw [h2] at h1
    cases h1
  · simp
    omega
  · have hsw : SWK (encF L) 2 w g 0 d' (sortWorldK (encF L) 2 w g 0 m d' os) := ⟨m, os, rfl⟩
    have hh := hsw.holds hgl hH hsz
    intro j u hu
    have hml : (d'.toList.map (fun i => aAt L i.1)).length = d'.size := by simp
    have hjl : j < d'.size * 2 := by
      have h1 := (List.getElem?_eq_some_iff.1 hu).1
      have h2 : ∀ M : List Al15, (afs M).length = M.length * 2 := by
        intro M
        induction M with
        | nil => rfl
        | cons x M ih => simp [afs, alf, ih]; omega
      rw [h2, hml] at h1
      exact h1
    have hi' : j / 2 < d'.size := by omega
    have hi : j / 2 < (d'.toList.map (fun i => aAt L i.1)).length := by omega
    obtain ⟨e1, e2⟩ := afs_at hi
    have c0 := (hh j (by simp only [size_flatK]; omega)).1
    rw [get_flatK (encF L) 2 d' _ (by omega), Nat.zero_add] at c0
    have e0 : (d'.toList.map (fun i => aAt L i.1))[j / 2] = aAt L (d'[j / 2]!).1 := by
      simp only [List.getElem_map, Array.getElem_toList]
      rw [getElem!_pos d' (j / 2) hi']
    rw [e0] at e1 e2
    refine ⟨g, 0, rfl, hsw.lt hgl, ?_⟩
    rw [Nat.zero_add]
    rcases (show j = j / 2 * 2 ∧ j % 2 = 0 ∨ j = j / 2 * 2 + 1 ∧ j % 2 = 1 by omega) with ⟨e, em⟩ | ⟨e, em⟩
    · rw [em] at c0
      rw [← e, hu] at e1
      rw [e1]
      exact c0
    · rw [em] at c0
      rw [← e, hu] at e2
      rw [e2]
      exact c0
end Go.Proofs.Ytcfmnfoognopnaa
