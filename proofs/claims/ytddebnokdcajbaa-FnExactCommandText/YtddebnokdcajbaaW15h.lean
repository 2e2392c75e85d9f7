/- The law on CommandText: the program answers as the specification. -/
import Derived.Test.YtddebnokdcajbaaS15p
import Derived.Test.YtddebnokdcajbaaI15p
import Derived.Test.YtddebnokdcajbaaCmdA15
import Derived.Deep.RegionHeld3
namespace Go.Proofs.Ytddebnokdcajbaa
open Go.RowKit

set_option maxRecDepth 100000 in
set_option maxHeartbeats 3200000 in
theorem w_commandText (bs : Bool) (a : Option Addr) (n c : Nat) (f : Nat → ByteArray) (v : ByteArray) (w : World) (hl : n ≤ maxLen) (hX : ∀ i, i < n → (f i).size ≤ maxLen) (hs : v.size ≤ maxLen) (hR : RowStr a n f w) :
    Calls Try.prog 3 #[.agg #[.bool bs, .slice a n c, .string v]] w fun e w' => e = .returned (.bool true) ∧ Below w.heap.size w w' := by
  have SZ := hide (fun w R => w_szCommand a n c f v bs 1048576 w ⟨hl, hX, hs⟩ (by omega) (by omega) R)
  have M1 := Mut.new w #[.bool bs, .slice a n c, .string v] 24
  have d0 : Below w.heap.size w (w.alloc (.cells #[.bool bs, .slice a n c, .string v] 24)) := below_box (Below.refl _ _)
  go_enter Try.func3, Try.ntmps3
  go_wp2_with fail
  generalize w.alloc (.cells #[.bool bs, .slice a n c, .string v] 24) = w1 at *
  have d1 := d0
  clear d0
  refine (SZ.out _ (hR.below d1)).mono ?_
  rintro e w2 ⟨r0, rfl, hr0, bb⟩
  replace M1 := M1.below bb
  have d2 := d1.trans (bb.mono d1.size)
  clear bb 
  clear SZ
  rcases hr0 with rfl | ⟨r0a, r0b, l0, l1⟩
  · go_wp2_with fail
    go_ret
    exact ⟨rfl, d2⟩
  have z0 : ¬ (r0 < 0) := by omega
  have hn : n ≤ 1048576 := by omega
  have TO := hide (fun w R => w_toCommand a n c f v bs w hn R)
  have EQ := hide (fun a' b' c' e' w R Q => (show Calls Try.prog 8 #[.agg #[.bool bs, .slice a' n c', .string v], .agg #[.bool bs, .slice b' n e', .string v]] w _ from w_eqCommand a' b' c' e' ⟨bs, ⟨n, f, v⟩⟩ w (by show n ≤ _; omega) R Q))
  have S : Hid (∀ a' c' w, RowStr a' n f w → Calls Try.prog 5 #[.agg #[.bool bs, .slice a' n c', .string v]] w fun e w' => e = .returned (.tuple #[.string (cmdA bs n f v).1, .bool (cmdA bs n f v).2]) ∧ Below w.heap.size w w') := fun a' c' w R => by
    cases bs
    · exact s_commandTextD n f v a' c' w hn hX hs R
    · exact s_commandTextS n f v a' c' w hn hX hs R
  have I : Hid (∀ a' c' w, n ≤ c' → RowStr a' n f w → Calls Try.prog 7 #[.agg #[.bool bs, .slice a' n c', .string v]] w fun e w' => e = .returned (.tuple #[.string (cmdA bs n f v).1, .bool (cmdA bs n f v).2]) ∧ Below w.heap.size w w') := fun a' c' w hc R => by
    cases bs
    · exact i_commandTextD n f v a' c' w hc R
    · exact i_commandTextS n f v a' c' w hc R
  generalize cmdA bs n f v = GA at *
  obtain ⟨gs, gb⟩ := GA
  dsimp only at S I
  have k0 : (gb != gb) = false := by simp
  have k1 := sEq_t gs
  clear r0a r0b l0 l1 hX hs hl
  have c0 := M1.2.1 0 _ rfl
  have c1 := M1.2.1 1 _ rfl
  have c2 := M1.2.1 2 _ rfl
  go_wp2_with fail
  refine (TO.out _ (hR.below d2)).mono ?_
  rintro e w3 ⟨qs, rfl, _, Os, bb⟩
  replace M1 := M1.below bb
  have d3 := d2.trans (bb.mono d2.size)
  clear bb c0 c1 c2
  go_wp2_with fail
  refine (S.out _ _ _ Os.row).mono ?_
  rintro e w4 ⟨rfl, bb⟩
  clear Os
  replace M1 := M1.below bb
  have d4 := d3.trans (bb.mono d3.size)
  clear bb 
  have c0 := M1.2.1 0 _ rfl
  have c1 := M1.2.1 1 _ rfl
  have c2 := M1.2.1 2 _ rfl
  go_wp2_with fail
  refine (TO.out _ (hR.below d4)).mono ?_
  rintro e w5 ⟨qx, rfl, _, Ox, bb⟩
  replace M1 := M1.below bb
  have d5 := d4.trans (bb.mono d4.size)
  clear bb c0 c1 c2
  go_wp2_with fail
  have bb : Below w5.heap.size w5 (w5.alloc (.cells #[.bool bs, .slice (some ⟨qx, 0, none⟩) n n, .string v] 28)) := below_box (Below.refl _ _)
  have N := Mut.new w5 #[.bool bs, .slice (some ⟨qx, 0, none⟩) n n, .string v] 28
  replace M1 := M1.below bb
  replace Ox := Ox.below bb
  have d6 := d5.trans (bb.mono d5.size)
  clear bb 
  generalize w5.alloc (.cells #[.bool bs, .slice (some ⟨qx, 0, none⟩) n n, .string v] 28) = w6 at *
  have hbl : w5.heap.size < w6.heap.size := N.1
  generalize w5.heap.size = bx at *
  have x0 := N.2.1 0 _ rfl
  have x1 := N.2.1 1 _ rfl
  have x2 := N.2.1 2 _ rfl
  go_wp2_with fail
  refine (I.out _ _ _ (Nat.le_refl _) Ox.row).mono ?_
  rintro e w7 ⟨rfl, bb⟩
  replace M1 := M1.below bb
  replace Ox := Ox.below bb
  replace N := N.below bb
  have d7 := d6.trans (bb.mono d6.size)
  clear bb x0 x1 x2
  go_wp2_with fail
  have KB : Hid (∀ X : World, Below w7.heap.size w7 X → (X.cell? ⟨w.heap.size, 0, none⟩ = some (.bool bs) ∧ X.cell? ⟨w.heap.size, 1, none⟩ = some (.slice a n c) ∧ X.cell? ⟨w.heap.size, 2, none⟩ = some (.string v) ∧ X.cell? ⟨bx, 0, none⟩ = some (.bool bs) ∧ X.cell? ⟨bx, 1, none⟩ = some (.slice (some ⟨qx, 0, none⟩) n n) ∧ X.cell? ⟨bx, 2, none⟩ = some (.string v))) := fun X h => ⟨(M1.below h).2.1 0 _ rfl, (M1.below h).2.1 1 _ rfl, (M1.below h).2.1 2 _ rfl, (N.below h).2.1 0 _ rfl, (N.below h).2.1 1 _ rfl, (N.below h).2.1 2 _ rfl⟩
  have dZ : Below w7.heap.size w7 w7 := Below.refl _ _
  have hR7 := hide (hR.below d7)
  have c0 := M1.2.1 0 _ rfl
  have c1 := M1.2.1 1 _ rfl
  have c2 := M1.2.1 2 _ rfl
  have x0 := N.2.1 0 _ rfl
  have x1 := N.2.1 1 _ rfl
  have x2 := N.2.1 2 _ rfl
  have OX := hide Ox
  go_region_held3 (fun X => X.cell? ⟨w.heap.size, 0, none⟩ = some (.bool bs) ∧ X.cell? ⟨w.heap.size, 1, none⟩ = some (.slice a n c) ∧ X.cell? ⟨w.heap.size, 2, none⟩ = some (.string v) ∧ X.cell? ⟨bx, 0, none⟩ = some (.bool bs) ∧ X.cell? ⟨bx, 1, none⟩ = some (.slice (some ⟨qx, 0, none⟩) n n) ∧ X.cell? ⟨bx, 2, none⟩ = some (.string v)) (first | exact KB.out _ dE | exact KB.out _ dE.drew | exact KB.out _ dT | exact KB.out _ dT.drew | exact KB.out _ dZ | exact KB.out _ dZ.drew) (first | (go_at_call 6; refine (TO.out _ (hR7.out.below (by first | exact dZ | exact dZ.drew))).mono ?_; rintro e wT ⟨vT, rfl, _, oT, bT⟩; have dT : Below w7.heap.size w7 wT := (by first | exact below_step dZ bT | exact below_step dZ.drew bT)) | (go_at_call 8; refine (EQ.out _ _ _ _ _ (by first | exact (OX.out.below dT).row | exact (OX.out.below dT.drew).row) (by first | exact oT.row | exact (oT.below (Below.refl _ _).drew).row)).mono ?_; rintro e wE ⟨rfl, bE⟩; have dE : Below w7.heap.size w7 wE := (by first | exact below_step dT bE | exact below_step dT.drew bE)))
  all_goals
    have bb := dE
    clear OX KB hR7 dT dZ oT
    generalize wE = w8 at *
    replace M1 := M1.below bb
    replace Ox := Ox.below bb
    replace N := N.below bb
    have d8 := d7.trans (bb.mono d7.size)
    clear bb c0 c1 c2 x0 x1 x2
    go_wp2_with fail
    go_ret
    exact ⟨rfl, d8⟩
end Go.Proofs.Ytddebnokdcajbaa
