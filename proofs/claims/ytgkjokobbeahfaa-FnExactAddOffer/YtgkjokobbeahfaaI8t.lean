/- slices.Insert of one offer into a list of one's own. -/
import Derived.Test.YtgkjokobbeahfaaIns8
import Derived.Deep.RegionHeld3
namespace Go.Proofs.Ytgkjokobbeahfaa
open Go.RowKit

set_option maxRecDepth 100000 in
set_option maxHeartbeats 3200000 in
theorem i_insO_shift (base g cap i vb n : Nat) (L : List Oe) (q : Oe) (w : World) (hn : L.length = n) (hO : OwnU base (.slice (some ⟨g, 0, none⟩) L.length cap) L w) (hi : i < n) (hroom : n + 1 ≤ cap) (hl : n ≤ 1048576) (hne : vb ≠ g) (hV : w.heap[vb]? = some (.cells (encU q).toArray 39 (0, 0))) :
    Calls Try.prog 79 #[.slice (some ⟨g, 0, none⟩) n cap, .int .i64 i, .slice (some ⟨vb, 0, none⟩) 1 1] w fun e w' => e = .returned (.slice (some ⟨g, 0, none⟩) (n + 1) cap) ∧ w' = (w.drew.setCells g ((i + 1) * 7) ((ucells L).drop (i * 7))).setCells g (i * 7) (encU q) := by
  obtain ⟨hb, hg, h1, h2, hc, hs, hf, hsh⟩ := own_partsU hO
  have h63 : (cap : Int) ≤ 9223372036854775807 := by unfold maxLen at h2; omega
  have hql : (encU q).length = 7 := rfl
  have hcl : (ucells L).length = n * 7 := by rw [uc_len, hn]
  have hsv : w.shape? vb = some (39, 7) := by simp [World.shape?, hV, hql]
  have hfv : ∀ j, w.frozen? ⟨vb, j, none⟩ = false := fun j => by simp [World.frozen?, hV]
  have hcv : ∀ j v, (encU q)[j]? = some v → w.cell? ⟨vb, j, none⟩ = some v := fun j v hj => by simp [World.cell?, hV, hj]
  have hsz : (Try.prog.info? 39).map (·.size) = some 7 := by kernel_rfl
  have hov := hide (fun lb cb => ov_false vb g ((i + 1) * 7) 1 1 lb cb w hne _ _ _ _ hsv hsh (by omega) (hfv _) (hfv _))
  have hdl : ((ucells L).drop (i * 7)).length = (n - i) * 7 := by rw [List.length_drop, hcl]; omega
  have hcp1 := hide (fun ty dc sc => run_copy_7 (P := Try.prog) w.drew 25 25 ty 39 g ((i + 1) * 7) (n - i) dc ⟨g, i * 7, none⟩ (n + 1 - i) sc (n - i) ((ucells L).drop (i * 7)) Try.underlying25 hsz (by simp only [Nat.min_def]; split <;> omega) hdl
    (fun j v hj => by rw [Addr.add_lit]; exact hc (i * 7 + j) v (by rwa [List.getElem?_drop] at hj))
    (fun j hj => by rw [hdl] at hj; exact hs _ (by omega)) (fun j hj => hf _) (fun v hv => uc_oneCell L v (List.mem_of_mem_drop hv)))
  obtain ⟨W1, hW1⟩ : ∃ W1, W1 = w.drew.setCells g ((i + 1) * 7) ((ucells L).drop (i * 7)) := ⟨_, rfl⟩
  have hsp1 : ∀ k, k < (n + 1) * 7 → (W1.cell? ⟨g, k, none⟩).isSome = true := by
    rw [hW1]
    exact some_setCells (n := (n + 1) * 7) (fun j hj => hs j (by omega)) (by rw [hdl]; omega)
  have hcp2 := hide (fun (W : World) (hWc : ∀ x, W.cell? x = W1.cell? x) (hWf : ∀ x, W.frozen? x = W1.frozen? x) ty dc => run_copy_7 (P := Try.prog) W 25 25 ty 39 g (i * 7) (n + 1 - i) dc ⟨vb, 0, none⟩ 1 1 1 (encU q) Try.underlying25 hsz (by simp only [Nat.min_def]; split <;> omega) rfl
    (fun j v hj => by
      rw [Addr.add_lit, hWc, hW1, World.cell?_setCells_out g _ _ _ _ (fun h _ => absurd h hne), Nat.zero_add]
      exact hcv j v hj)
    (fun j hj => by rw [hWc]; exact hsp1 _ (by rw [hql] at hj; omega)) (fun j hj => by rw [hWf, hW1, World.frozen?_setCells]; exact hf _) (fun v hv => uc_oneCell [q] v (by rw [uc_one]; exact hv)))
  have hz2 : ¬ ((i : Int) = (n : Int)) := by omega
  have hz2' : ((i : Int) == (n : Int)) = false := by simpa using hz2
  have hz3 : ¬ ((n : Int) + 1 > (cap : Int)) := by omega
  have hi1 : (i : Int) ≤ (n : Int) := by omega
  have hi2 : (n : Int) ≤ (cap : Int) := by omega
  have hi3 : (n : Int) + 1 ≤ (cap : Int) := by omega
  have hi4 : (i : Int) + 1 ≤ (n : Int) + 1 := by omega
  have hi5 : (i : Int) ≤ (n : Int) + 1 := by omega
  have hb2 : ¬ (cap = i + 1) := by omega
  have hb4 : ¬ (cap = i) := by omega
  have hw1 : IntKind.i64.wrap ((i : Int) + 1) = (i : Int) + 1 := wrapk_in _ (by omega)
  have hb1 : (0 : Int) ≤ (i : Int) + 1 := by omega
  have htn : ((i : Int) + 1).toNat = i + 1 := by omega
  have htn2 : ((n : Int) + 1).toNat = n + 1 := by omega
  rw [← hW1] at hcp1 ⊢
  clear hW1 hc hs hf hsh hsv hfv hcv hsp1 hcl hdl hO hV h1 h2 hn hg hb
  go_enter Try.func79, Try.ntmps79
  go_wp2_with (simp only [hov.out])
  go_region_held3 (fun _ => True) (first | go_keep | trivial)
    ((first | (refine step_copy_runI rfl _ _ 25 25 rfl _ _ (by rfl) (by rfl) (hcp1.out _ _ _) ?_)))
  all_goals
    have hr2 := hcp2.out W1 (fun _ => rfl) (fun _ => rfl)
    go_wp2_with fail
    go_ret
    exact ⟨rfl, rfl⟩
set_option maxRecDepth 100000 in
set_option maxHeartbeats 3200000 in
theorem i_insO_grow (base g cap i vb n : Nat) (L : List Oe) (q : Oe) (w : World) (hn : L.length = n) (hO : OwnU base (.slice (some ⟨g, 0, none⟩) L.length cap) L w) (hi : i < n) (hroom : ¬ n + 1 ≤ cap) (hl : n ≤ 1048576) (hne : vb < w.heap.size) (hV : w.heap[vb]? = some (.cells (encU q).toArray 39 (0, 0))) :
    Calls Try.prog 79 #[.slice (some ⟨g, 0, none⟩) n cap, .int .i64 i, .slice (some ⟨vb, 0, none⟩) 1 1] w fun e w' => ∃ G, e = .returned (.slice (some ⟨w.heap.size, 0, none⟩) (n + 1) G) ∧ Mut w' w.heap.size ((ucells L).take (i * 7) ++ (encU q ++ (ucells L).drop (i * 7))) ∧ Below w.heap.size w w' := by
  obtain ⟨hb, hg, h1, h2, hc, hs, hf, hsh⟩ := own_partsU hO
  have h63 : (cap : Int) ≤ 9223372036854775807 := by unfold maxLen at h2; omega
  have hcn : n ≤ cap := by omega
  have hql : (encU q).length = 7 := rfl
  have hcl : (ucells L).length = n * 7 := by rw [uc_len, hn]
  have hcv : ∀ j v, (encU q)[j]? = some v → w.cell? ⟨vb, j, none⟩ = some v := fun j v hj => by simp [World.cell?, hV, hj]
  have hsz : (Try.prog.info? 39).map (·.size) = some 7 := by kernel_rfl
  obtain ⟨i0, hi0, hz0, hzs, hzb⟩ := info_partsU infoOffer
  have hdl : ((ucells L).drop (i * 7)).length = (n - i) * 7 := by rw [List.length_drop, hcl]; omega
  have htl : ((ucells L).take (i * 7)).length = i * 7 := by rw [List.length_take, hcl]; omega
  have hik : i + (n + 1 - i) = n + 1 := by omega
  have hkk : (n : Int) + 1 - (i : Int) = ((n + 1 - i : Nat) : Int) := by omega
  have hold : (Builtin.firstCells i0.size i (.slice (some ⟨g, 0, none⟩) i cap)).run Try.prog w.drew = .ok ((ucells L).take (i * 7)).toArray w.drew := by
    rw [hzs]
    exact run_firstCells_some w.drew 7 i ⟨g, 0, none⟩ i cap ((ucells L).take (i * 7)) htl (fun j v hj => by
      rw [Addr.add_lit, Nat.zero_add]
      rw [List.getElem?_take] at hj
      split at hj
      · exact hc j v hj
      · cases hj)
  have hgc1 := grownCap_ge w (n + 1) cap 39
  have hgc2 := grownCap_le_maxLen w (n + 1) cap 39 (by unfold maxLen; omega)
  have hrz0 : ∀ ty, (Builtin.append_ #[25, 3] ty #[.slice (some ⟨g, 0, none⟩) i cap, .int .i64 ((n : Int) + 1 - (i : Int))]).run Try.prog w =
      .ok (.slice (some ⟨w.heap.size, 0, none⟩) (n + 1) (grownCap w (n + 1) cap 39)) (w.drew.alloc (.cells (((ucells L).take (i * 7)).toArray ++ Builtin.zeroCells (Value.agg #[.int .i64 0, .int .i64 0, .slice none 0 0, .int .i64 0, .int .i64 0, .int .i64 0, .slice none 0 0]).cells (n + 1 - i) ++ Builtin.zeroCells (Value.agg #[.int .i64 0, .int .i64 0, .slice none 0 0, .int .i64 0, .int .i64 0, .int .i64 0, .slice none 0 0]).cells (grownCap w (n + 1) cap 39 - (n + 1))) 39)) := fun ty => by
    have h := Lib.run_append_grow_zeros (P := Try.prog) w 25 3 ty 39 i0 _ .i64 .i64 Try.underlying25 Try.underlying3 hi0 hz0 (some ⟨g, 0, none⟩) i cap ((ucells L).take (i * 7)) hold (n + 1 - i) (by omega) (by rw [hzs]; omega) (by omega) (by omega) (by rw [hzb]; omega) (by rw [hzb, hik]; exact growslice_fits (by omega) (by omega))
    rw [hik] at h
    rw [hkk]
    exact h
  obtain ⟨G, hG⟩ : ∃ G, G = grownCap w (n + 1) cap 39 := ⟨_, rfl⟩
  obtain ⟨ROW, hROW⟩ : ∃ ROW : Array Value, ROW = ((ucells L).take (i * 7)).toArray ++ Builtin.zeroCells (Value.agg #[.int .i64 0, .int .i64 0, .slice none 0 0, .int .i64 0, .int .i64 0, .int .i64 0, .slice none 0 0]).cells (n + 1 - i) ++ Builtin.zeroCells (Value.agg #[.int .i64 0, .int .i64 0, .slice none 0 0, .int .i64 0, .int .i64 0, .int .i64 0, .slice none 0 0]).cells (G - (n + 1)) := ⟨_, rfl⟩
  rw [← hG] at hrz0 hgc1 hgc2
  rw [← hROW] at hrz0
  have hRl : (n + 1) * 7 ≤ ROW.size := by
    rw [hROW]
    simp [Builtin.zeroCells, Value.cells, htl]
    omega
  have hRt : ∀ j v, j < i * 7 → (ucells L)[j]? = some v → ROW[j]? = some v := by
    intro j v hj hv
    rw [hROW, Array.append_assoc, Array.getElem?_append_left (by simp; omega)]
    simp [List.getElem?_take_of_lt hj, hv]
  obtain ⟨W1, hW1⟩ : ∃ W1, W1 = w.drew.alloc (.cells ROW 39) := ⟨_, rfl⟩
  rw [← hW1] at hrz0
  have hN : ∀ j, j < (n + 1) * 7 → (W1.cell? ⟨w.heap.size, j, none⟩).isSome = true := fun j hj => by
    rw [hW1, World.cell?_alloc_at (w := w.drew) ROW _ w.heap.size j rfl, Array.getElem?_eq_getElem (by omega)]; rfl
  have hNt : ∀ j v, j < i * 7 → (ucells L)[j]? = some v → W1.cell? ⟨w.heap.size, j, none⟩ = some v := fun j v hj hv => by
    rw [hW1, World.cell?_alloc_at (w := w.drew) ROW _ w.heap.size j rfl]; exact hRt j v hj hv
  have hNf : ∀ j, W1.frozen? ⟨w.heap.size, j, none⟩ = false := fun j => by rw [hW1]; exact World.frozen?_alloc_at (w := w.drew) ROW _ w.heap.size j rfl
  have hOb : ∀ j v, w.cell? ⟨g, j, none⟩ = some v → W1.cell? ⟨g, j, none⟩ = some v := fun j v h => by rw [hW1, World.cell?_alloc_past (w := w.drew) _ g j hg]; exact h
  have hOv : ∀ j v, w.cell? ⟨vb, j, none⟩ = some v → W1.cell? ⟨vb, j, none⟩ = some v := fun j v h => by rw [hW1, World.cell?_alloc_past (w := w.drew) _ vb j hne]; exact h
  have hB1 : Below w.heap.size w W1 := by rw [hW1]; exact (Below.refl _ _).drew.alloc (Nat.le_refl _) _
  have hS1 : w.heap.size < W1.heap.size := by rw [hW1]; simp
  have hcpA := hide (fun (W : World) (hWc : ∀ x, W.cell? x = W1.cell? x) (hWf : ∀ x, W.frozen? x = W1.frozen? x) ty dc => run_copy_7 (P := Try.prog) W 25 25 ty 39 w.heap.size (i * 7) (n + 1 - i) dc ⟨vb, 0, none⟩ 1 1 1 (encU q) Try.underlying25 hsz (by simp only [Nat.min_def]; split <;> omega) rfl
    (fun j v hj => by rw [Addr.add_lit, hWc, Nat.zero_add]; exact hOv _ v (hcv j v hj))
    (fun j hj => by rw [hWc]; exact hN _ (by rw [hql] at hj; omega)) (fun j hj => by rw [hWf]; exact hNf _) (fun v hv => uc_oneCell [q] v (by rw [uc_one]; exact hv)))
  have hgN : g ≠ w.heap.size := by omega
  have hcpB := hide (fun (W : World) (hWc : ∀ x, W.cell? x = (W1.setCells w.heap.size (i * 7) (encU q)).cell? x) (hWf : ∀ x, W.frozen? x = (W1.setCells w.heap.size (i * 7) (encU q)).frozen? x) ty dc sc => run_copy_7 (P := Try.prog) W 25 25 ty 39 w.heap.size ((i + 1) * 7) (n - i) dc ⟨g, i * 7, none⟩ (n - i) sc (n - i) ((ucells L).drop (i * 7)) Try.underlying25 hsz (by simp only [Nat.min_def]; split <;> omega) hdl
    (fun j v hj => by
      rw [Addr.add_lit, hWc, World.cell?_setCells_out _ _ _ _ _ (fun h _ => absurd h hgN)]
      exact hOb _ v (hc (i * 7 + j) v (by rwa [List.getElem?_drop] at hj)))
    (fun j hj => by rw [hWc]; exact some_setCells (n := (n + 1) * 7) hN (by rw [hql]; omega) _ (by rw [hdl] at hj; omega))
    (fun j hj => by rw [hWf, World.frozen?_setCells]; exact hNf _) (fun v hv => uc_oneCell L v (List.mem_of_mem_drop hv)))
  have hfin : Hid (∀ W : World, (∀ x, W.cell? x = (W1.setCells w.heap.size (i * 7) (encU q)).cell? x) → (∀ x, W.frozen? x = (W1.setCells w.heap.size (i * 7) (encU q)).frozen? x) → W.heap.size = W1.heap.size → Mut (W.setCells w.heap.size ((i + 1) * 7) ((ucells L).drop (i * 7))) w.heap.size ((ucells L).take (i * 7) ++ (encU q ++ (ucells L).drop (i * 7)))) := by
    intro W hWc hWf hWs
    have hsW : ∀ j, j < (n + 1) * 7 → (W.cell? ⟨w.heap.size, j, none⟩).isSome = true := fun j hj => by rw [hWc]; exact some_setCells (n := (n + 1) * 7) hN (by rw [hql]; omega) j hj
    refine ins_mutS (by rw [size_setCells, hWs]; exact hS1) (by rw [hcl]; omega) (fun j v h hv => ?_) (fun j v hv => ?_) (fun k v hv => ?_) (fun j _ => by rw [World.frozen?_setCells, hWf, World.frozen?_setCells]; exact hNf _)
    · rw [World.cell?_setCells_out _ _ _ _ _ (fun _ _ => .inl (show j < (i + 1) * 7 by omega)), hWc, World.cell?_setCells_out _ _ _ _ _ (fun _ _ => .inl h)]
      exact hNt j v h hv
    · have hk : j < (encU q).length := (List.getElem?_eq_some_iff.1 hv).1
      rw [World.cell?_setCells_out _ _ _ _ _ (fun _ _ => .inl (show i * 7 + j < (i + 1) * 7 by rw [hql] at hk; omega)), hWc]
      rw [World.cell?_setCells_in w.heap.size (encU q) (i * 7) _ (fun k hk => hN _ (by rw [hql] at hk; omega)) j hk, ← hv, List.getElem?_eq_getElem hk]
    · have hk : k < ((ucells L).drop (i * 7)).length := (List.getElem?_eq_some_iff.1 hv).1
      rw [hql, show i * 7 + 7 + k = (i + 1) * 7 + k by omega]
      rw [World.cell?_setCells_in w.heap.size ((ucells L).drop (i * 7)) ((i + 1) * 7) W (fun k hk => hsW _ (by rw [hdl] at hk; omega)) k hk, ← hv, List.getElem?_eq_getElem hk]
  have hrz := hide hrz0
  have hz2 : ¬ ((i : Int) = (n : Int)) := by omega
  have hz2' : ((i : Int) == (n : Int)) = false := by simpa using hz2
  have hz3 : ((n : Int) + 1 > (cap : Int)) := by omega
  have hi1 : (i : Int) ≤ (n : Int) := by omega
  have hi2 : (n : Int) ≤ (cap : Int) := by omega
  have hi3 : (i : Int) ≤ (cap : Int) := by omega
  have hi4 : (i : Int) + 1 ≤ (n : Int) + 1 := by omega
  have hi5 : (i : Int) ≤ (n : Int) + 1 := by omega
  have hi6 : (n : Int) + 1 ≤ (G : Int) := by omega
  have hG63 : (G : Int) ≤ 9223372036854775807 := by unfold maxLen at hgc2; omega
  have hb2 : ¬ (G = i + 1) := by omega
  have hb3 : ¬ (G = i) := by omega
  have hb4 : ¬ (cap = i) := by omega
  have hw1 : IntKind.i64.wrap ((i : Int) + 1) = (i : Int) + 1 := wrapk_in _ (by omega)
  have hb1 : (0 : Int) ≤ (i : Int) + 1 := by omega
  have htn : ((i : Int) + 1).toNat = i + 1 := by omega
  obtain ⟨W2, hW2⟩ : ∃ W2, W2 = W1.setCells w.heap.size (i * 7) (encU q) := ⟨_, rfl⟩
  have hB2 : Hid (Below w.heap.size w W2) := by rw [Hid, hW2]; exact below_setCells7 _ (Nat.le_refl _) _ _ hB1
  have hW2s : Hid (W2.heap.size = W1.heap.size) := by rw [Hid, hW2]; exact size_setCells _ _ _ _
  rw [← hW2] at hcpB hfin
  have hrA := hcpA.out W1 (fun _ => rfl) (fun _ => rfl)
  rw [← hW2] at hrA
  have hrB := hide (hcpB.out W2.drew (fun _ => rfl) (fun _ => rfl))
  clear hW2 hcpA hcpB hB1 hS1
  generalize w.heap.size = N at *
  clear hc hs hf hsh hcv hN hNt hNf hOb hOv hRl hRt hROW hG hold hkk hik hcl hdl htl hO hV h1 h2 hn hW1 hrz0 hgc1 hgc2 hi0 hz0 hzs hzb hsz hql
  go_enter Try.func79, Try.ntmps79
  go_wp2_with (first | (at_builtin; refine Lib.wpList_append_run _ rfl _ _ _ _ rfl _ _ rfl rfl _ _ (hrz.out _) ?_))
  go_region_held3 (fun _ => True) (first | go_keep | trivial)
    ((first | (refine step_copy_runI rfl _ _ 25 25 rfl _ _ (by rfl) (by rfl) (hrB.out _ _ _) ?_)))
  all_goals
    go_wp2_with fail
    go_ret
    exact ⟨G, rfl, hfin.out _ (fun _ => rfl) (fun _ => rfl) hW2s.out, below_setCells7 _ (Nat.le_refl _) _ _ (Below.drew hB2.out)⟩
end Go.Proofs.Ytgkjokobbeahfaa
