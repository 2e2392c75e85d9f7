/- What slices.Clone, and the program's someHas and putInto answer. -/
import Derived.Test.YtofalilkephkpaaI3
import Derived.Test.YtofalilkephkpaaGrow3
import Derived.Lib.SliceRun
namespace Go.Proofs.Ytofalilkephkpaa
open Go.RowKit

set_option maxRecDepth 100000 in
set_option maxHeartbeats 1600000 in
theorem i_clone (a : Option Addr) (cap : Nat) (L : List Pf) (w : World) (hl : L.length ≤ 8589934592) (hR : SrcP a L cap w) :
    Calls Try.prog 170 #[.slice a L.length cap] w fun e w' => ∃ v, e = .returned v ∧ OwnP w.heap.size v L w' ∧ Below w.heap.size w w' := by
  have q22 : ∀ (w : World) (a : Option Addr) (n c n' c' : Nat), (binOp .eql 23 (.slice a n c) (.slice none n' c')).run Try.prog w = .ok (.bool a.isNone) w := fun w a n c n' c' => Lib.run_eql_slice_nil w _ _ a n c n' c' Try.underlying23
  rcases hR with ⟨hR, ⟨rfl, rfl, rfl⟩ | ⟨b, off, rfl⟩⟩
  · clear hR
    simp only [List.length_nil]
    go_enter Try.func170, Try.ntmps170
    go_wp2_with fail
    go_ret
    exact ⟨_, rfl, ownP_nil _ _, Below.refl _ _⟩
  · go_enter Try.func170, Try.ntmps170
    have hO : OwnP w.heap.size (.slice (some ⟨w.heap.size, 0, none⟩) 0 0) [] (w.alloc (.cells #[] 34)) := World.ownsRow_made w #[] 0 (Nat.le_refl _) (by decide) rfl
    have hR1 := hR.below (below_box (o := .cells #[] 34) (Below.refl _ _))
    go_wp2_with (first | (at_builtin; refine wpList_appP rfl _ _ rfl w.heap.size _ [] rfl hO (some ⟨b, off, none⟩) L cap rfl ⟨hR1, .inr ⟨_, _, rfl⟩⟩ (by simp only [List.length_nil]; omega) (by simp) ?_))
    intro v' w5 hown' hbe _
    have ho : OwnP w.heap.size v' L w5 := hown'
    have hb : Below w.heap.size w w5 := (below_box (Below.refl _ _)).trans hbe
    go_wp2_with fail
    go_ret
    exact ⟨_, rfl, ho, hb⟩
set_option maxRecDepth 100000 in
set_option maxHeartbeats 1600000 in
theorem i_somePrefix (a : Option Addr) (cap : Nat) (L : List Pf) (p : Pf) (w : World) (hl : L.length ≤ 8589934592) (hR : RowP a L w) (hG : ∀ q, q ∈ L → gdP q) (gp : gdP p) :
    Calls Try.prog 203 #[.func (.func 174) #[] #[], .slice a L.length cap, .agg #[.int .i64 p.1, .int .i64 p.2]] w fun e w' => e = .returned (.bool (L.any fun q => covP q p)) ∧ Below w.heap.size w w' := by
  go_enter Try.func203, Try.ntmps203
  go_wp2_with fail
  go_loopw [11] (fun i wr => ∃ k : Nat, k ≤ L.length ∧ i = .int .i64 k ∧ Below w.heap.size w wr ∧ Bk wr w.heap.size #[.int .i64 p.1, .int .i64 p.2] 34 ∧ Hid ((L.take k).any (fun q => covP q p) = false)) (fun i _ => L.length - (intOf i).toNat)
  case atStart => exact ⟨0, Nat.zero_le _, rfl, below_box (Below.refl _ _), Bk.new w _ _, hide rfl⟩
  case round =>
    obtain ⟨k, hk, rfl, hb, hB, hn⟩ := hrel
    by_cases hlt : k < L.length
    · obtain ⟨b, off, rfl, hbw, h0, h1⟩ := (hR.below hb) k hlt
      have hlt' : (k : Int) < (L.length : Int) := by omega
      have s3 := hide (fun w => i_hasPrefix3 (pAt L k) p w (hG _ (pAt_mem hlt)) gp)
      have hT := hide (any_next (f := fun q => covP q p) hlt hn.out)
      have hY := hide (any_at (f := fun q => covP q p) hlt)
      have r0 := fun o => (old1 hB.lt o 0).trans (hB.cell 0)
      have r1 := fun o => (old1 hB.lt o 1).trans (hB.cell 1)
      simp only [List.getElem?_toArray, List.getElem?_cons_zero, List.getElem?_cons_succ] at r0 r1
      have n0 : ¬ w.heap.size = wr.heap.size := by have := hB.lt; omega
      clear hR hG
      generalize hv : covP (pAt L k) p = cv at *
      clear hv
      generalize (pAt L k).1 = qa at *
      generalize (pAt L k).2 = ql at *
      cases cv with
      | true =>
        have hY2 := hide (hY.out rfl)
        clear hT hY
        go_wp2_with fail
        refine (s3.out _).mono ?_
        rintro e w3 ⟨rfl, hb3⟩
        go_wp2_with fail
        go_ret
        exact ⟨ret_bool hY2.out.symm, hb.trans ((below_box hb3).mono hb.size)⟩
      | false =>
        have hT2 := hide (hT.out rfl)
        clear hT hY
        go_wp2_with fail
        refine (s3.out _).mono ?_
        rintro e w3 ⟨rfl, hb3⟩
        have hb3' := below_box hb3
        have hB' := hB.below hb3'
        go_wp2_with fail
        exact ⟨⟨k + 1, by omega, by go_num, hb.trans (hb3'.mono hb.size), hB', hT2⟩, by simp [intOf]; omega⟩
    · have hk' : k = L.length := by omega
      subst hk'
      have hF : Hid ((L.any fun q => covP q p) = false) := by have := hn.out; rw [List.take_length] at this; exact this
      clear hR hn
      go_wp2_with fail
      go_ret
      exact ⟨ret_bool hF.out.symm, hb⟩
theorem incP_no {g : List Pf} {x : Pf} (h : (g.any fun q => covP q x) = true) : incP g x = g := by unfold incP; rw [if_pos h]
theorem incP_yes {g : List Pf} {x : Pf} (h : (g.any fun q => covP q x) = false) : incP g x = g ++ [x] := by unfold incP; rw [if_neg (by rw [h]; simp)]
theorem putI_take {G M : List Pf} (hG : ∀ q, q ∈ G → gdP q) (hM : ∀ q, q ∈ M → gdP q) {k : Nat} (hk : k ≤ M.length) : (∀ q, q ∈ putI G (M.take k) → gdP q) ∧ (putI G (M.take k)).length ≤ G.length + k := by
  obtain ⟨h1, _, _, h4⟩ := putI_facts (M.take k) G hG (fun q hq => hM q (List.mem_of_mem_take hq))
  rw [List.length_take] at h4
  exact ⟨h1, by omega⟩
theorem putI_next {G M : List Pf} {k : Nat} (h : k < M.length) : putI G (M.take (k + 1)) = incP (putI G (M.take k)) (pAt M k) := by unfold putI; exact foldl_take incP G h
set_option maxRecDepth 100000 in
set_option maxHeartbeats 3200000 in
theorem i_putInto (a : Option Addr) (cap : Nat) (G : List Pf) (b0 : Option Addr) (capb : Nat) (M : List Pf) (w : World) (hlG : G.length ≤ 4294967296) (hlM : M.length ≤ 4294967296) (hR : SrcP a G cap w) (hRM : RowP b0 M w) (hG : ∀ q, q ∈ G → gdP q) (hM : ∀ q, q ∈ M → gdP q) :
    Calls Try.prog 173 #[.func (.func 174) #[] #[], .slice a G.length cap, .slice b0 M.length capb] w fun e w' => ∃ v, e = .returned v ∧ OwnP w.heap.size v (putI G M) w' ∧ Below w.heap.size w w' := by
  have s0 := hide (fun w hR => i_clone a cap G w (by omega) hR)
  go_enter Try.func173, Try.ntmps173
  go_wp2_with fail
  refine (s0.out _ hR).mono ?_
  rintro e w1 ⟨v1, rfl, ho1, hb1⟩
  clear hR s0
  go_wp2_with fail
  go_loopw [7, 14] (fun o i wr => ∃ k : Nat, k ≤ M.length ∧ i = .int .i64 k ∧ OwnP w.heap.size o (putI G (M.take k)) wr ∧ Below w.heap.size w wr) (fun _ i _ => M.length - (intOf i).toNat)
  case atStart => exact ⟨0, Nat.zero_le _, rfl, ho1, hb1⟩
  case round =>
    obtain ⟨k, hk, rfl, hown, hb⟩ := hrel
    have hsr := hb.size
    obtain ⟨hg1, hg2⟩ := putI_take hG hM hk
    obtain ⟨oa, oc, rfl, hRo, _⟩ := ownP_row hown
    by_cases hlt : k < M.length
    · obtain ⟨b, off, rfl, hbw, h0, h1⟩ := (hRM.below hb) k hlt
      have hlt' : (k : Int) < (M.length : Int) := by omega
      have gq := hM _ (pAt_mem hlt)
      have s1 := hide (fun w hR => i_somePrefix oa oc (putI G (M.take k)) (pAt M k) w (by omega) hR hg1 gq)
      have hN := hide (putI_next (G := G) hlt)
      have hY := hide (incP_yes (g := putI G (M.take k)) (x := pAt M k))
      have hX := hide (incP_no (g := putI G (M.take k)) (x := pAt M k))
      clear hRM hM gq hG hg1
      generalize hv : ((putI G (M.take k)).any fun q => covP q (pAt M k)) = cv at *
      clear hv
      generalize putI G (M.take k) = T at *
      have hRo2 := hide (fun o => hRo.below (below_box (o := o) (Below.refl _ _)))
      clear hRo
      generalize hP : pAt M k = P at *
      clear hP
      obtain ⟨qa, ql⟩ := P
      dsimp only at *
      cases cv with
      | true =>
        have hF : Hid (putI G (M.take (k + 1)) = T) := hide (hN.out.trans (hX.out rfl))
        clear hX hY hN
        go_wp2_with fail
        refine (s1.out _ (hRo2.out _)).mono ?_
        rintro e w3 ⟨rfl, hb3⟩
        have hb3' := below_box hb3
        go_wp2_with fail
        exact ⟨⟨k + 1, by omega, by go_num, (by rw [hF.out]; exact ownP_below hown hb3'), hb.trans (hb3'.mono hsr)⟩, by simp [intOf]; omega⟩
      | false =>
        have hF : Hid (putI G (M.take (k + 1)) = T ++ [(qa, ql)]) := hide (hN.out.trans (hY.out rfl))
        clear hX hY hN
        go_wp2_with fail
        refine (s1.out _ (hRo2.out _)).mono ?_
        rintro e w3 ⟨rfl, hb3⟩
        have hb3' := below_box hb3
        have hB3 : Bk w3 wr.heap.size #[.int .i64 qa, .int .i64 ql] 34 := (Bk.new wr _ _).below hb3
        have q0 := (hB3.cell 0).trans (show _ = some (.int .i64 qa) from rfl)
        have q1 := (hB3.cell 1).trans (show _ = some (.int .i64 ql) from rfl)
        have hO3 := ownP_below hown hb3'
        have hbz := hb.trans (hb3'.mono hsr)
        have hs3 := hbz.size
        clear hB3 hb3 hb3' hown
        go_wp2_with (first | (at_builtin; refine wpList_appP rfl _ _ rfl w.heap.size _ T rfl (ownP_below hO3 (below_box (Below.refl _ _))) (some ⟨w3.heap.size, 0, none⟩) [(qa, ql)] 1 rfl ⟨RowP.one (by simp) (by simp) (by simp), .inr ⟨_, _, rfl⟩⟩ (by simp only [List.length_cons, List.length_nil]; omega) (by simp; omega) ?_))
        intro v' w5 hown' hbe _
        have hbe2 : Below w.heap.size w w5 := (hbz.trans ((below_box (Below.refl _ _)).mono hs3)).trans hbe
        go_wp2_with fail
        exact ⟨⟨k + 1, by omega, by go_num, (by rw [hF.out]; exact hown'), hbe2⟩, by simp [intOf]; omega⟩
    · have hk' : k = M.length := by omega
      subst hk'
      rw [List.take_length] at hown hRo ⊢
      clear hRM hRo
      go_wp2_with fail
      go_ret
      exact ⟨_, rfl, hown, hb⟩
end Go.Proofs.Ytofalilkephkpaa
