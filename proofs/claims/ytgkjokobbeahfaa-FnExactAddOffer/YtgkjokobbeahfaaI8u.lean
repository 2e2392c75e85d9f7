/- slices.Insert of one offer, in one contract. -/
import Derived.Test.YtgkjokobbeahfaaI8t
import Derived.Test.YtgkjokobbeahfaaMark8
namespace Go.Proofs.Ytgkjokobbeahfaa
open Go.RowKit

theorem row_vb {vb : Nat} {q : Oe} {w : World} {t : TypeId} (hvw : vb < w.heap.size) (hV : w.heap[vb]? = some (.cells (encU q).toArray t (0, 0))) : RowU (some ⟨vb, 0, none⟩) [q] w := by
  have hc : ∀ j v, (encU q)[j]? = some v → w.cell? ⟨vb, j, none⟩ = some v := fun j v hj => by simp [World.cell?, hV, hj]
  exact RowU.one hvw (hc 0 _ rfl) (hc 1 _ rfl) (hc 2 _ rfl) (hc 3 _ rfl) (hc 4 _ rfl) (hc 5 _ rfl) (hc 6 _ rfl)
theorem only_grown {w w' : World} {v : Value} (h : w.grownBy w' v.ownBlock) : OnlyS (fun k => v.ownBlock = some k) w w' :=
  ⟨h.os, h.tape, h.output, h.size, fun k hk hn => h.block k hk (fun e => hn e.symm)⟩
set_option maxRecDepth 100000 in
set_option maxHeartbeats 1600000 in
theorem i_insO_end (base g cap n vb : Nat) (L : List Oe) (q : Oe) (w : World) (hn : L.length = n) (hO : OwnU base (.slice (some ⟨g, 0, none⟩) L.length cap) L w) (hl : n ≤ 1048576) (hbs : base ≤ w.heap.size) (hR : RowU (some ⟨vb, 0, none⟩) [q] w) :
    Calls Try.prog 79 #[.slice (some ⟨g, 0, none⟩) n cap, .int .i64 n, .slice (some ⟨vb, 0, none⟩) 1 1] w fun e w' => ∃ v', e = .returned v' ∧ OwnU base v' (L ++ [q]) w' ∧ w.grownBy w' (Value.slice (some ⟨g, 0, none⟩) n cap).ownBlock ∧ (v'.ownBlock = some g ∨ v'.ownBlock = some w.heap.size) := by
  obtain ⟨_, _, h1, h2, _⟩ := own_partsU hO
  have hi2 : (n : Int) ≤ (cap : Int) := by omega
  have h63 : (cap : Int) ≤ 9223372036854775807 := by unfold maxLen at h2; omega
  subst hn
  clear h1 h2
  by_cases hcc : cap = L.length
  · subst hcc
    go_enter Try.func79, Try.ntmps79
    go_wp2_with (first | (at_builtin; refine wpList_appU2 rfl _ _ rfl base _ L rfl hO (some ⟨vb, 0, none⟩) [q] 1 1 rfl rfl ⟨hR, .inr ⟨_, _, rfl⟩⟩ (by simp only [List.length_cons, List.length_nil]; omega) hbs ?_))
    intro v' w4 hO4 b4 hgr hbk
    go_wp2_with fail
    go_ret
    exact ⟨_, rfl, hO4, hgr, hbk⟩
  · skip
    go_enter Try.func79, Try.ntmps79
    go_wp2_with (first | (at_builtin; refine wpList_appU2 rfl _ _ rfl base _ L rfl hO (some ⟨vb, 0, none⟩) [q] 1 1 rfl rfl ⟨hR, .inr ⟨_, _, rfl⟩⟩ (by simp only [List.length_cons, List.length_nil]; omega) hbs ?_))
    intro v' w4 hO4 b4 hgr hbk
    go_wp2_with fail
    go_ret
    exact ⟨_, rfl, hO4, hgr, hbk⟩
set_option maxRecDepth 100000 in
set_option maxHeartbeats 1600000 in
theorem i_insO_nil (base vb : Nat) (q : Oe) (w : World) (hbs : base ≤ w.heap.size) (hR : RowU (some ⟨vb, 0, none⟩) [q] w) :
    Calls Try.prog 79 #[.slice none 0 0, .int .i64 0, .slice (some ⟨vb, 0, none⟩) 1 1] w fun e w' => ∃ v', e = .returned v' ∧ OwnU base v' [q] w' ∧ w.grownBy w' (Value.slice none 0 0).ownBlock ∧ (v'.ownBlock = none ∨ v'.ownBlock = some w.heap.size) := by
  have hO : OwnU base (.slice none 0 0) [] w := ownU_nil _ _
  go_enter Try.func79, Try.ntmps79
  go_wp2_with (first | (at_builtin; refine wpList_appU2 rfl _ _ rfl base _ [] rfl hO (some ⟨vb, 0, none⟩) [q] 1 1 rfl rfl ⟨hR, .inr ⟨_, _, rfl⟩⟩ (by simp) hbs ?_))
  intro v' w4 hO4 b4 hgr hbk
  go_wp2_with fail
  go_ret
  exact ⟨_, rfl, hO4, hgr, hbk⟩
theorem i_insertO (base i vb : Nat) (v : Value) (L : List Oe) (q : Oe) (w : World) (hO : OwnU base v L w) (hi : i ≤ L.length) (hl : L.length ≤ 1048576) (hbs : base ≤ w.heap.size) (hne : v.ownBlock ≠ some vb) (hvw : vb < w.heap.size) (hV : w.heap[vb]? = some (.cells (encU q).toArray 39 (0, 0))) :
    Calls Try.prog 79 #[v, .int .i64 i, .slice (some ⟨vb, 0, none⟩) 1 1] w fun e w' => ∃ c cp, e = .returned (.slice (some ⟨c, 0, none⟩) (L.length + 1) cp) ∧ base ≤ c ∧ Mut w' c (ucells (L.take i ++ q :: L.drop i)) ∧ OnlyS (fun k => v.ownBlock = some k) w w' ∧ (v.ownBlock = some c ∨ w.heap.size ≤ c) := by
  have hR := row_vb hvw hV
  obtain ⟨a, cap, rfl, _, hc⟩ := ownU_row hO
  rcases hc with ⟨rfl, rfl, rfl⟩ | ⟨g, rfl, hg1, hg2, hcap⟩
  · obtain rfl : i = 0 := by simpa using hi
    refine (i_insO_nil base vb q w hbs hR).mono ?_
    rintro e w' ⟨v', rfl, hO', hgr, hbk⟩
    obtain ⟨g', cap', rfl, hb', hg'⟩ := ownU_shape hO' (by simp)
    refine ⟨g', cap', rfl, hb', ownU_mut hO', only_grown hgr, .inr ?_⟩
    simp [Value.ownBlock] at hbk
    omega
  · have hneg : vb ≠ g := fun e => hne (by rw [e]; rfl)
    by_cases he : i = L.length
    · subst he
      refine (i_insO_end base g cap L.length vb L q w rfl hO hl hbs hR).mono ?_
      rintro e w' ⟨v', rfl, hO', hgr, hbk⟩
      obtain ⟨g', cap', rfl, hb', hg'⟩ := ownU_shape hO' (by simp)
      refine ⟨g', cap', by simp, hb', ?_, only_grown hgr, ?_⟩
      · rw [List.take_length, List.drop_length]
        exact ownU_mut hO'
      · simp [Value.ownBlock] at hbk ⊢
        omega
    · by_cases hroom : L.length + 1 ≤ cap
      · refine (i_insO_shift base g cap i vb L.length L q w rfl hO (by omega) hroom hl hneg hV).mono ?_
        rintro e w' ⟨rfl, rfl⟩
        obtain ⟨hb, hg, h1, h2, hc, hs, hf, hsh⟩ := own_partsU hO
        refine ⟨g, cap, rfl, hb, ?_, OnlyS.of_only (only_setCells7 g _ _ (only_setCells7 g _ _ (Only.of_below (Below.refl _ _).drew))) rfl, .inl rfl⟩
        rw [← uc_ins]
        have := ins_shiftS (w := w.drew) (g := g) (p := i * 7) (cs := ucells L) (xs := encU q) hg (by rw [uc_len]; omega) hc (fun j hj => hs j (by rw [uc_len, show (encU q).length = 7 from rfl] at hj; omega)) (fun j _ => hf j)
        rw [show i * 7 + (encU q).length = (i + 1) * 7 by rw [show (encU q).length = 7 from rfl]; omega] at this
        exact this
      · refine (i_insO_grow base g cap i vb L.length L q w rfl hO (by omega) hroom hl hvw hV).mono ?_
        rintro e w' ⟨G, rfl, hM, hB⟩
        refine ⟨w.heap.size, G, rfl, hbs, by rw [← uc_ins]; exact hM, ⟨hB.os, hB.tape, hB.output, hB.size, fun k hk _ => hB.block k hk⟩, .inr (Nat.le_refl _)⟩
end Go.Proofs.Ytgkjokobbeahfaa
