/- RankOffers of the specification. -/
import Derived.Test.YtgkjokobbeahfaaRank8
import Derived.Test.YtgkjokobbeahfaaDrop8
import Derived.Test.YtgkjokobbeahfaaS8c
import Derived.Test.YtgkjokobbeahfaaMemN
namespace Go.Proofs.Ytgkjokobbeahfaa
open Go.RowKit

def slLen : Value → Nat
  | .slice _ n _ => n
  | _ => 0
theorem sel_step {D : List Oc} {f : Nat} (h : D.length = f + 1) : selO D.length D = (TL D (bsI D)).pe :: selO (D.eraseIdx (bsI D)).length (D.eraseIdx (bsI D)) := by
  have hq : bsI D < D.length := by
    have := pkO_le (TL D) (D.length - 1)
    unfold bsI
    omega
  have hl : (D.eraseIdx (bsI D)).length = f := by rw [List.length_eraseIdx_of_lt hq]; omega
  rw [hl, h]
  show (if D.length = 0 then [] else (TL D (bsI D)).pe :: selO f (D.eraseIdx (bsI D))) = _
  rw [if_neg (by omega)]
theorem erase_map (M : List Oe) (q : Nat) : (M.take q ++ M.drop (q + 1)).map (·.t) = (M.map (·.t)).eraseIdx q := by
  rw [List.eraseIdx_eq_take_drop_succ, List.map_append, List.map_take, List.map_drop]
theorem erase_len {M : List Oe} {q : Nat} (h : q < M.length) : (M.take q ++ M.drop (q + 1)).length = M.length - 1 := by
  rw [List.length_append, List.length_take, List.length_drop]
  omega
theorem RowU.grow8 {w w' : World} {g : Nat} {L : List Oe} {v : Value} (h : RowU (some ⟨g, 0, none⟩) L w) (k : w.grownBy w' v.ownBlock) (hn : v.ownBlock ≠ some g) : RowU (some ⟨g, 0, none⟩) L w' := by
  intro i hi
  obtain ⟨b, off, ha, hb, h0, h1, h2, h3, h4, h5, h6⟩ := h i hi
  have hbg : b = g := by simp at ha; exact ha.1.symm
  have hbk := k.block b hb (fun e => hn (by rw [← hbg]; exact e.symm))
  have hc : ∀ o, w'.cell? ⟨b, o, none⟩ = w.cell? ⟨b, o, none⟩ := fun o => World.cell?_of_block (w := w) hbk
  exact ⟨b, off, ha, Nat.lt_of_lt_of_le hb k.size, (hc _).trans h0, (hc _).trans h1, (hc _).trans h2, (hc _).trans h3, (hc _).trans h4, (hc _).trans h5, (hc _).trans h6⟩
set_option maxRecDepth 100000 in
set_option maxHeartbeats 3200000 in
theorem s_rank (b off : Nat) (L : List Oe) (c : Nat) (w : World) (hl : L.length ≤ 1048576) (hU : RowU (some ⟨b, off, none⟩) L w) (hS : ∀ e, e ∈ L → SrcO w e) (rkK : Bool) (rkL : List Int) (hK : rkK = osB (L.map (·.t)).length (TL (L.map (·.t)))) (hL : rkL = if rkK = true then selO (L.map (·.t)).length (L.map (·.t)) else []) :
    Calls Try.prog 26 #[.slice (some ⟨b, off, none⟩) L.length c] w fun r w' => ∃ a' c', r = .returned (.tuple #[.slice a' rkL.length c', .bool rkK]) ∧ RowN .i64 a' rkL w' ∧ Below w.heap.size w w' := by
  have hlen : (L.map (·.t)).length = L.length := by simp
  have G := hide (fun w R => s_goodOffers (some ⟨b, off, none⟩) L.length c (TL (L.map (·.t))) w hl (low_src hS) R)
  have hR := hide (rowO_src hU hS)
  cases hg : osB (L.map (·.t)).length (TL (L.map (·.t))) with
  | false =>
    rw [hg] at hK
    subst hK
    have hL : rkL = [] := by simpa using hL
    subst hL
    rw [hlen] at hg
    rw [hg] at G
    clear hg
    go_enter Try.func26, Try.ntmps26
    go_wp2_with fail
    refine (G.out _ hR.out).mono ?_
    rintro r w1 ⟨rfl, d1⟩
    go_wp2_with fail
    go_ret2
    first | exact ⟨none, 0, rfl, RowN.nil _ _ _, d1⟩ | exact ⟨none, ⟨0, rfl⟩, RowN.nil _ _ _, d1⟩
  | true =>
    rw [hg] at hK
    subst hK
    have hLs : Hid (rkL = selO (L.map (·.t)).length (L.map (·.t))) := by rw [Hid]; simpa using hL
    clear hL
    have hin := hide (fun e he => (hS e he).2.2.1)
    rw [hlen] at hg
    rw [hg] at G
    clear hg hS hlen
    go_enter Try.func26, Try.ntmps26
    go_wp2_with fail
    refine (G.out _ hR.out).mono ?_
    rintro r w1 ⟨rfl, d1⟩
    have hO : OwnU w1.heap.size (.slice (some ⟨w1.heap.size, 0, none⟩) 0 0) [] (w1.alloc (.cells #[] 39)) := World.ownsRow_made w1 #[] 0 (Nat.le_refl _) (by decide) rfl
    have hR1 := (hU.below d1).below (below_box (o := .cells #[] 39) (Below.refl _ _))
    clear hU G hR
    go_wp2_with (first | (at_builtin; refine wpList_appU2 rfl _ _ rfl w1.heap.size _ [] rfl hO (some ⟨b, off, none⟩) L L.length c rfl rfl ⟨hR1, .inr ⟨_, _, rfl⟩⟩ (by simp only [List.length_nil]; omega) (by simp) ?_))
    intro v2 w2 hO2 b2 _ hbk
    have d2 := d1.trans (((below_box (Below.refl _ _)).trans b2).mono d1.size)
    have hO2 : OwnU w1.heap.size v2 L w2 := hO2
    obtain ⟨va, vc, rfl, hrow, hc⟩ := ownU_row hO2
    obtain ⟨g, rfl, hg1, hg2, hvc⟩ : ∃ g, va = some ⟨g, 0, none⟩ ∧ w1.heap.size ≤ g ∧ g < w2.heap.size ∧ L.length ≤ vc ∧ vc ≤ maxLen := by
      rcases hc with ⟨rfl, _, _⟩ | ⟨q, h1, h2, h3, h4⟩
      · simp [Value.ownBlock] at hbk
      · exact ⟨q, h1, h2, h3, h4⟩
    have hws2 := hide d2.size
    clear hc hbk b2 hO2 hO hR1
    go_wp2_with fail
    go_loopw [4, 5] (fun vr vo wr => ∃ (g gc : Nat) (M : List Oe) (O : List Int), vr = .slice (some ⟨g, 0, none⟩) M.length gc ∧ M.length ≤ gc ∧ gc ≤ maxLen ∧ g < wr.heap.size ∧ RowU (some ⟨g, 0, none⟩) M wr ∧ OwnN 3 .i64 w2.heap.size vo O wr ∧ vo.ownBlock ≠ some g ∧ (∀ e, e ∈ M → e ∈ L) ∧ M.length + O.length = L.length ∧ O ++ selO (M.map (·.t)).length (M.map (·.t)) = rkL ∧ Below w.heap.size w wr ∧ w2.heap.size ≤ wr.heap.size) (fun vr _ _ => slLen vr)
    case atStart => exact ⟨g, vc, L, [], rfl, hvc.1, hvc.2, hg2, hrow, ownN_nil _ _ _ _, by simp [Value.ownBlock], fun _ h => h, by simp, by rw [List.nil_append]; exact hLs.out.symm, d2, Nat.le_refl _⟩
    case round =>
      clear hrow hg1 hg2 hvc d1 d2
      obtain ⟨g, gc, M, O, rfl, hgc1, hgc2, hgw, hM, hO, hne, hsub, hcnt', hsel, hb, hw2⟩ := hrel
      have hcnt := hide hcnt'
      have hml0 : M.length ≤ 1048576 := by omega
      have hol0 : O.length ≤ 1048576 := by omega
      clear hcnt'
      by_cases h0 : M.length = 0
      · have h0' : ¬ ((M.length : Int) > 0) := by omega
        have hM0 : M = [] := List.eq_nil_of_length_eq_zero h0
        have hOr : O = rkL := by rw [← hsel, hM0]; simp [selO]
        obtain ⟨oa, oc, rfl, hrow, _⟩ := ownN_row hO
        rw [hOr] at hrow
        have hrow := hide hrow
        have hOl := hide (congrArg List.length hOr)
        clear hsub hM hO hsel hOr hM0
        rw [hOl.out]
        go_wp2_with fail
        go_ret2
        first | exact ⟨oa, oc, rfl, hrow.out, hb⟩ | exact ⟨oa, ⟨oc, rfl⟩, hrow.out, hb⟩
      · have h0' : ((M.length : Int) > 0) := by omega
        obtain ⟨f, hf⟩ : ∃ f, M.length = f + 1 := ⟨M.length - 1, by omega⟩
        have hml : (M.map (·.t)).length = M.length := by simp
        have hst := sel_step (D := M.map (·.t)) (f := f) (by omega)
        have hqlt : bsI (M.map (·.t)) < M.length := by
          have := pkO_le (TL (M.map (·.t))) ((M.map (·.t)).length - 1)
          unfold bsI
          omega
        have hbs : bsO (TL (M.map (·.t))) M.length = (bsI (M.map (·.t)) : Int) := by
          unfold bsI
          rw [hf, bsO_succ, hml, hf]
          rfl
        have LB := hide (fun w R => s_l8Best (some ⟨g, 0, none⟩) M.length gc (TL (M.map (·.t))) w (by omega) R)
        rw [hbs] at LB
        have hTq : TL (M.map (·.t)) (bsI (M.map (·.t))) = (uAt M (bsI (M.map (·.t)))).t := by
          rw [TL_eq (by omega), uAt_eq hqlt]
          simp
        rw [hTq, ← erase_map] at hst
        have hRO := hide (hM.offers (fun e he => (hin.out e (hsub e he)).below hb))
        have hsel' : Hid (O ++ [(uAt M (bsI (M.map (·.t)))).t.pe] ++ selO ((M.take (bsI (M.map (·.t))) ++ M.drop (bsI (M.map (·.t)) + 1)).map (·.t)).length ((M.take (bsI (M.map (·.t))) ++ M.drop (bsI (M.map (·.t)) + 1)).map (·.t)) = rkL) := by
          rw [Hid, ← hsel, hst]
          simp
        clear hst hbs hTq hsel hf hml
        generalize bsI (M.map (·.t)) = q at *
        obtain ⟨bb, off', hbo, _, u0, u1, u2, u3, u4, u5, u6⟩ := hM q hqlt
        simp only [Option.some.injEq, Addr.mk.injEq, and_true] at hbo
        obtain ⟨rfl, rfl⟩ := hbo
        have hq0 : (q : Int) < (M.length : Int) := by omega
        have hq1 : (q : Int) ≤ (gc : Int) := by omega
        have hq2 : (q : Int) + 1 ≤ (M.length : Int) := by omega
        have hq3 : (M.length : Int) ≤ (gc : Int) := by omega
        have hq4 : IntKind.i64.wrap ((q : Int) + 1) = (q : Int) + 1 := wrapk_in _ (by omega)
        have hq5 : ((q : Int) + 1).toNat = q + 1 := by omega
        have hq6 : (0 : Int) ≤ (q : Int) + 1 := by omega
        have hlh := hide hl
        generalize (uAt M q).t.pe = pe at *
        obtain ⟨oa, oc, rfl, _, _⟩ := ownN_row hO
        go_wp2_with fail
        refine (LB.out _ hRO.out).mono ?_
        rintro r w3 ⟨rfl, b3⟩
        have d3 := hb.trans (b3.mono hb.size)
        have hM3 := hM.below b3
        have hO3 := ownN_below hO b3
        have hg3 : g < w3.heap.size := Nat.lt_of_lt_of_le hgw b3.size
        have v0 := ((bcell b3).1 _ _ hgw).trans u0
        have hw3 := Nat.le_trans hw2 b3.size
        rw [Nat.zero_add] at v0
        clear hM hO u0 u1 u2 u3 u4 u5 u6 LB hRO hb b3 hgw hw2
        have hsrc : SrcN .i64 (some ⟨w3.heap.size, 0, none⟩) [pe] 1 (w3.alloc (.cells #[.int .i64 pe] 3)) := by
          refine ⟨fun i hi => ?_, .inr ⟨_, _, rfl⟩⟩
          have : i = 0 := by simpa using hi
          subst this
          exact ⟨_, _, rfl, by simp, by simp [go_sem]⟩
        have hown := hide (ownN_below hO3 (below_box (o := .cells #[.int .i64 pe] 3) (Below.refl _ _)))
        have hlq : Hid (O.length + [pe].length ≤ 8589934593) := by rw [Hid]; simp only [List.length_cons, List.length_nil]; omega
        have hbq : Hid (w2.heap.size ≤ (w3.alloc (.cells #[.int .i64 pe] 3)).heap.size) := by rw [Hid]; simp; omega
        have hsrc := hide hsrc
        go_wp2_with (first | (at_builtin; refine wpList_appN numInt rfl _ _ rfl w2.heap.size _ O rfl hown.out (some ⟨w3.heap.size, 0, none⟩) [pe] 1 1 rfl rfl hsrc.out hlq.out (by decide) hbq.out ?_))
        intro vo w4 hO4 b4 hgr4 hbk4
        have bB : Below w3.heap.size w3 (w3.alloc (.cells #[.int .i64 pe] 3)) := below_box (Below.refl _ _)
        have hM4 := (hM3.below bB).grow8 hgr4 hne
        have hg4 : g < w4.heap.size := Nat.lt_of_lt_of_le hg3 (Nat.le_trans bB.size b4.size)
        have hne4 : vo.ownBlock ≠ some g := by
          rcases hbk4 with h | h
          · rw [h]; exact hne
          · rw [h]; simp; omega
        have d4 := (d3.trans (bB.mono d3.size)).trans (b4.mono hws2.out)
        have hw4 := Nat.le_trans hw3 (Nat.le_trans bB.size b4.size)
        have hO4 := hide hO4
        have hM4 := hide hM4
        have hlt1 : (M.take q).length = q := by rw [List.length_take]; omega
        have hlt2 : (M.drop (q + 1)).length = M.length - (q + 1) := List.length_drop
        have hlt1 := hide hlt1
        have hlt2 := hide hlt2
        clear hsrc hown hlq hbq v0 bB b4 hgr4 hbk4 hM3 hO3 hg3 hne d3 hw3
        go_wp2_with fail
        have hrT : Hid (∀ w', Below w4.heap.size w4 w' → SrcU (some ⟨g, 0, none⟩) (M.take q) gc w') := fun w' b => ⟨(hM4.out.take q).below b, .inr ⟨_, _, rfl⟩⟩
        have hrD : Hid (∀ w', Below w4.heap.size w4 w' → SrcU (if gc = q + 1 then some ⟨g, 0, none⟩ else some ⟨g, (q + 1) * 7, none⟩) (M.drop (q + 1)) (gc - (q + 1)) w') := by
          intro w' b
          by_cases hcc : gc = q + 1
          · rw [if_pos hcc]
            have hnil : M.drop (q + 1) = [] := List.eq_nil_of_length_eq_zero (by rw [hlt2.out]; omega)
            rw [hnil]
            exact ⟨RowU.nil _ _, .inr ⟨_, _, rfl⟩⟩
          · rw [if_neg hcc]
            exact ⟨by have := (hM4.out.drop (q + 1)).below b; simpa using this, .inr ⟨_, _, rfl⟩⟩
        go_region_held3 (fun _ => True) (first | go_keep | trivial)
          ((first
            | (have hz := d5; refine step_appU2 (by rfl) _ _ (by rfl) w4.heap.size v5 (M.take q) (by rfl) (by first | exact hO5 | exact ownU_below hO5 (Below.refl _ _).drew) (if gc = q + 1 then some ⟨g, 0, none⟩ else some ⟨g, (q + 1) * 7, none⟩) (M.drop (q + 1)) (M.length - (q + 1)) (gc - (q + 1)) (by rfl) (by rw [hlt2.out]) (hrD.out _ (by first | exact d5 | exact d5.drew)) (by rw [hlt1.out, hlt2.out]; omega) (by first | exact d5.size | exact d5.drew.size) ?_; intro v6 w6 hO6 b6 hgr6 hbk6; have d6 : Below w4.heap.size w4 w6 := (by first | exact d5.trans b6 | exact d5.drew.trans b6))
            | (refine step_appU2 (by rfl) _ _ (by rfl) w4.heap.size (.slice (some ⟨w4.heap.size, 0, none⟩) 0 0) [] (by rfl) (by first | exact World.ownsRow_made _ #[] 0 (Nat.le_refl _) (by decide) rfl | exact ownU_below (World.ownsRow_made _ #[] 0 (Nat.le_refl _) (by decide) rfl) (Below.refl _ _).drew) (some ⟨g, 0, none⟩) (M.take q) q gc (by rfl) (by rw [hlt1.out]) (hrT.out _ (by first | exact below_box (Below.refl _ _) | exact (below_box (Below.refl _ _)).drew | exact below_box (Below.refl _ _).drew | exact (Below.refl _ _).drew.trans (below_box (Below.refl _ _)).drew)) (by rw [hlt1.out]; simp; omega) (by simp) ?_; intro v5 w5 hO5 b5 hgr5 hbk5; have d5 : Below w4.heap.size w4 w5 := (by first | exact (below_box (Below.refl _ _)).trans b5 | exact ((below_box (Below.refl _ _)).drew).trans b5 | exact (below_box (Below.refl _ _).drew).trans b5))))
        all_goals
          clear hq4 hq5 hq6
          have hnn : v6.ownBlock ≠ none := by
            have h5 : v5.ownBlock ≠ none := by
              rcases hbk5 with h | h
              · rw [h]; simp [Value.ownBlock]
              · rw [h]; simp
            rcases hbk6 with h | h
            · rw [h]; exact h5
            · rw [h]; simp
          obtain ⟨na, nc, rfl, hrow6, hc6⟩ := ownU_row hO6
          obtain ⟨g6, rfl, h61, h62, h63⟩ : ∃ g6, na = some ⟨g6, 0, none⟩ ∧ w4.heap.size ≤ g6 ∧ g6 < w6.heap.size ∧ (M.take q ++ M.drop (q + 1)).length ≤ nc ∧ nc ≤ maxLen := by
            rcases hc6 with ⟨rfl, _, _⟩ | ⟨x, h1, h2, h3, h4⟩
            · simp [Value.ownBlock] at hnn
            · exact ⟨x, h1, h2, h3, h4⟩
          clear hc6
          have hO6' := hide (ownN_below hO4.out d6)
          have hne6 : Hid (vo.ownBlock ≠ some g6) := fun e => by have := (World.ownsRow.lt hO4.out g6 e).2; omega
          have hle6 : (M.take q ++ M.drop (q + 1)).length = M.length - 1 := erase_len hqlt
          have hmm : Hid (∀ e, e ∈ M.take q ++ M.drop (q + 1) → e ∈ L) := fun e he => hsub e (by rcases List.mem_append.1 he with h | h; exact List.mem_of_mem_take h; exact List.mem_of_mem_drop h)
          have hcc : Hid ((M.take q ++ M.drop (q + 1)).length + (O ++ [pe]).length = L.length) := by
            rw [Hid, hle6, List.length_append]
            have := hcnt.out
            simp only [List.length_cons, List.length_nil]
            omega
          have hle6 := hide hle6
          have d7 := hide (d4.trans (d6.mono d4.size))
          have hw6 := hide (Nat.le_trans hw4 d6.size)
          have hrow6 := hide hrow6
          clear hO6 hnn hbk5 hbk6 hgr5 hgr6 b5 b6 hO5 d5 d6 d4 hrT hrD hO4 hM4 hsub hcnt hlt1 hlt2
          go_wp2_with fail
          exact ⟨⟨g6, nc, _, _, rfl, h63.1, h63.2, h62, hrow6.out, hO6'.out, hne6.out, hmm.out, hcc.out, hsel'.out, d7.out, hw6.out⟩, by simp only [slLen]; first | (show (M.take q ++ M.drop (q + 1)).length < M.length; rw [hle6.out]; omega) | (have := hle6.out; simp at this ⊢; omega)⟩
end Go.Proofs.Ytgkjokobbeahfaa
