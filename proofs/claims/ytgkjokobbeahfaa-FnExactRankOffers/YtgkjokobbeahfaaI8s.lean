/- slices.Clone at offers, RankOffers of the program. -/
import Derived.Test.YtgkjokobbeahfaaI8r
import Derived.Test.YtgkjokobbeahfaaDrop8
import Derived.Test.YtgkjokobbeahfaaMemN
import Derived.Test.YtgkjokobbeahfaaSI8
namespace Go.Proofs.Ytgkjokobbeahfaa
open Go.RowKit

/-- What RankOffers answers. -/
def rkK (D : List Oc) : Bool := osB D.length (TL D)
def rkL (D : List Oc) : List Int := if rkK D = true then selO D.length D else []
theorem sel_len : ∀ (f : Nat) (L : List Oc), (selO f L).length ≤ f := by
  intro f
  induction f with
  | zero => intro L; simp [selO]
  | succ f ih =>
    intro L
    unfold selO
    split
    · simp
    · simp only [List.length_cons]
      have := ih (L.eraseIdx (bsI L))
      omega
theorem rk_len (D : List Oc) : (rkL D).length ≤ D.length := by
  unfold rkL
  split
  · exact sel_len _ _
  · simp
theorem dist_of {L : List Oe} (h : osB (L.map (·.t)).length (TL (L.map (·.t))) = true) : ∀ i j, i < L.length → j < L.length → i ≠ j → (uAt L i).t.pe ≠ (uAt L j).t.pe := by
  have hl : ∀ i, i < L.length → TL (L.map (·.t)) i = (uAt L i).t := by
    intro i hi
    rw [TL_eq (by simpa using hi), uAt_eq hi]
    simp
  intro i j hi hj hij
  rw [← hl i hi, ← hl j hj]
  rcases Nat.lt_or_gt_of_ne hij with h1 | h1
  · have := os_lt h j (by simpa using hj) i h1
    omega
  · have := os_lt h i (by simpa using hi) j h1
    omega
theorem sorted_sel {S L : List Oe} (hp : S.Perm L) (hs : S.Pairwise (fun a b => ¬ cmpO b.t a.t < 0)) (h : osB (L.map (·.t)).length (TL (L.map (·.t))) = true) : S.map (·.t.pe) = rkL (L.map (·.t)) := by
  have hd : S.Pairwise (fun a b => a.t.pe ≠ b.t.pe) := by
    have h1 : (L.map (·.t)).Pairwise (fun a b => a.pe < b.pe) := (osB_list.1 h).2
    rw [List.pairwise_map] at h1
    have h2 : L.Pairwise (fun a b => a.t.pe ≠ b.t.pe) := h1.imp (fun h e => by omega)
    exact (hp.symm.pairwise_iff (fun {a b} (h : a.t.pe ≠ b.t.pe) => fun e => h e.symm)).1 h2
  have hs2 : (S.map (·.t)).Pairwise (fun a b => cmpO a b < 0) := by
    rw [List.pairwise_map]
    exact (hs.and hd).imp (fun h => cmpO_total h.2 h.1)
  have hm : S.map (·.t.pe) = (S.map (·.t)).map (·.pe) := by simp
  rw [hm, sel_sorted (hp.map (·.t)) hs2]
  unfold rkL
  rw [if_pos (show rkK (L.map (·.t)) = true from h)]
set_option maxRecDepth 100000 in
set_option maxHeartbeats 1600000 in
theorem i_cloneO (b off c : Nat) (L : List Oe) (w : World) (hl : L.length ≤ 1048576) (hR : RowU (some ⟨b, off, none⟩) L w) :
    Calls Try.prog 75 #[.slice (some ⟨b, off, none⟩) L.length c] w fun e w' => ∃ v, e = .returned v ∧ OwnU w.heap.size v L w' ∧ Below w.heap.size w w' := by
  have q22 : ∀ (w : World) (a : Option Addr) (n c n' c' : Nat), (binOp .eql 25 (.slice a n c) (.slice none n' c')).run Try.prog w = .ok (.bool a.isNone) w := fun w a n c n' c' => Lib.run_eql_slice_nil w _ _ a n c n' c' Try.underlying25
  go_enter Try.func75, Try.ntmps75
  have hO : OwnU w.heap.size (.slice (some ⟨w.heap.size, 0, none⟩) 0 0) [] (w.alloc (.cells #[] 39)) := World.ownsRow_made w #[] 0 (Nat.le_refl _) (by decide) rfl
  have hR1 := hR.below (below_box (o := .cells #[] 39) (Below.refl _ _))
  go_wp2_with (first | (at_builtin; refine wpList_appU rfl _ _ rfl w.heap.size _ [] rfl hO (some ⟨b, off, none⟩) L c rfl ⟨hR1, .inr ⟨_, _, rfl⟩⟩ (by simp only [List.length_nil]; omega) (by simp) ?_))
  intro v' w5 hown' hbe _
  have ho : OwnU w.heap.size v' L w5 := hown'
  have hb : Below w.heap.size w w5 := (below_box (Below.refl _ _)).trans hbe
  go_wp2_with fail
  go_ret
  exact ⟨_, rfl, ho, hb⟩
theorem i_sortO' (base : Nat) (v : Value) (L : List Oe) (w : World) (hlen : L.length ≤ 1048576) (ho : OwnU base v L w) (hd : ∀ i j, i < L.length → j < L.length → i ≠ j → (uAt L i).t.pe ≠ (uAt L j).t.pe) :
    Calls Try.prog 76 #[v, .func (.func 71) #[] #[]] w fun e w' =>
      e = .returned (.tuple #[]) ∧ ∃ (a : Option Addr) (cap : Nat) (S : List Oe), v = .slice a L.length cap ∧ S.Perm L ∧ S.Pairwise (fun a b => ¬ cmpO b.t a.t < 0) ∧ S.length = L.length ∧ RowU a S w' ∧ Below base w w' := by
  by_cases h0 : L = []
  · subst h0
    obtain ⟨a, cap, rfl, _, _⟩ := ownU_row ho
    refine Calls.mono (Try.slices_SortFunc_none a cap _ w) ?_
    rintro e w' ⟨rfl, rfl⟩
    exact ⟨rfl, a, cap, [], rfl, List.Perm.refl _, List.Pairwise.nil, rfl, RowU.nil _ _, Below.refl _ _⟩
  · obtain ⟨g, cap, rfl, hb, hg⟩ := ownU_shape ho h0
    have hp : 0 < L.length := Nat.pos_of_ne_zero (fun h => h0 (List.eq_nil_of_length_eq_zero h))
    refine (i_sortO base g cap L w hb hlen hp ho hg hd).mono ?_
    rintro e w' ⟨rfl, S, h1, h2, h3, h4, h5⟩
    exact ⟨rfl, _, cap, S, rfl, h1, h2, h3, h4, h5⟩
set_option maxRecDepth 100000 in
set_option maxHeartbeats 3200000 in
theorem i_rank (b off : Nat) (L : List Oe) (c : Nat) (w : World) (hl : L.length ≤ 1048576) (hU : RowU (some ⟨b, off, none⟩) L w) (hS : ∀ e, e ∈ L → SrcO w e) :
    Calls Try.prog 27 #[.slice (some ⟨b, off, none⟩) L.length c] w fun r w' => ∃ v, r = .returned (.tuple #[v, .bool (rkK (L.map (·.t)))]) ∧ OwnN 3 .i64 w.heap.size v (rkL (L.map (·.t))) w' ∧ Below w.heap.size w w' := by
  have hlen : (L.map (·.t)).length = L.length := by simp
  have G := hide (fun w R => i_goodOffers (some ⟨b, off, none⟩) L.length c (TL (L.map (·.t))) w hl (low_src hS) R)
  have hR := hide (rowO_src hU hS)
  have CL := hide (fun w R => i_cloneO b off c L w hl R)
  have hrk : rkK (L.map (·.t)) = osB (L.map (·.t)).length (TL (L.map (·.t))) := rfl
  cases hg : osB (L.map (·.t)).length (TL (L.map (·.t))) with
  | false =>
    have hz : rkL (L.map (·.t)) = [] := by unfold rkL; rw [hrk, hg]; simp
    rw [hz, hrk, hg]
    rw [hlen] at hg
    rw [hg] at G
    clear hg hrk hz CL
    go_enter Try.func27, Try.ntmps27
    go_wp2_with fail
    refine (G.out _ hR.out).mono ?_
    rintro r w1 ⟨rfl, d1⟩
    go_wp2_with fail
    go_ret2
    exact ⟨_, rfl, ownN_nil _ _ _ _, d1⟩
  | true =>
    have SF := hide (fun base v w ho => i_sortO' base v L w hl ho (dist_of hg))
    have hss := hide (fun S hp hs => sorted_sel (S := S) (L := L) hp hs hg)
    rw [hrk, hg]
    rw [hlen] at hg
    rw [hg] at G
    clear hg hrk hS
    generalize rkL (L.map (·.t)) = RL at *
    have hl' := hide hl
    generalize hn' : L.length = n at *
    clear hn'
    go_enter Try.func27, Try.ntmps27
    go_wp2_with fail
    refine (G.out _ hR.out).mono ?_
    rintro r w1 ⟨rfl, d1⟩
    go_wp2_with fail
    refine (CL.out _ (hU.below d1)).mono ?_
    rintro r w2 ⟨v2, rfl, hO2, b2⟩
    have d2 := d1.trans (b2.mono d1.size)
    clear b2
    go_wp2_with fail
    refine (SF.out _ _ _ hO2).mono ?_
    rintro r w3 ⟨rfl, a3, c3, S, rfl, hp, hsr, hsl, hRS, b3⟩
    have d3 := d2.trans (b3.mono d1.size)
    have hSR := hide (hss.out S hp hsr)
    have hsl' := hide hsl
    clear b3 hO2 hss hp hsr hsl SF CL G hR hU d1 d2
    go_wp2_with fail
    go_loopw [5, 17] (fun vv y wr => ∃ k : Nat, y = .int .i64 k ∧ k ≤ n ∧ OwnN 3 .i64 w3.heap.size vv ((S.take k).map (·.t.pe)) wr ∧ Below w3.heap.size w3 wr) (fun _ y _ => n - (intOf y).toNat)
    case atStart => exact ⟨0, rfl, Nat.zero_le _, ownN_nil _ _ _ _, Below.refl _ _⟩
    case round =>
      obtain ⟨k, rfl, hk, hO, hb⟩ := hrel
      by_cases hlt : k < n
      · have hlt' : (k : Int) < (n : Int) := by omega
        have hkS : k < S.length := by rw [hsl'.out]; exact hlt
        obtain ⟨bb, off', rfl, hbw, u0, u1, u2, u3, u4, u5, u6⟩ := hRS k hkS
        replace u0 := (hb.cell (p := ⟨bb, off' + k * 7, none⟩) hbw).trans u0
        replace u1 := (hb.cell (p := ⟨bb, off' + k * 7 + 1, none⟩) hbw).trans u1
        replace u2 := (hb.cell (p := ⟨bb, off' + k * 7 + 2, none⟩) hbw).trans u2
        replace u3 := (hb.cell (p := ⟨bb, off' + k * 7 + 3, none⟩) hbw).trans u3
        replace u4 := (hb.cell (p := ⟨bb, off' + k * 7 + 4, none⟩) hbw).trans u4
        replace u5 := (hb.cell (p := ⟨bb, off' + k * 7 + 5, none⟩) hbw).trans u5
        replace u6 := (hb.cell (p := ⟨bb, off' + k * 7 + 6, none⟩) hbw).trans u6
        have hN : Hid ((S.take (k + 1)).map (·.t.pe) = (S.take k).map (·.t.pe) ++ [(uAt S k).t.pe]) := by rw [Hid, take_succU hkS, List.map_append]; rfl
        have hfl : Hid (((S.take k).map (·.t.pe)).length ≤ 1048576) := by rw [Hid, List.length_map, List.length_take]; omega
        generalize uAt S k = e at *
        generalize (S.take k).map (·.t.pe) = M at *
        have hbX : Below wr.heap.size wr (wr.alloc (.cells #[.int .i64 e.t.pe, .int .i64 e.t.o, .slice e.a0 e.t.n0 e.c0, .int .i64 e.t.nx, .int .i64 e.t.md, .int .i64 e.t.pf, .slice e.a1 e.t.n1 e.c1] 39)) := below_box (Below.refl _ _)
        have dX := hide (hb.trans (hbX.mono hb.size))
        have hOX := hide (ownN_below hO hbX)
        clear hO hbX
        obtain ⟨va2, vc2, rfl, _, _⟩ := ownN_row hOX.out
        have hs3 := dX.out.size
        have hf3 := hfl.out
        have hsrc : SrcN .i64 (some ⟨wr.heap.size + 1, 0, none⟩) [e.t.pe] 1 ((wr.alloc (.cells #[.int .i64 e.t.pe, .int .i64 e.t.o, .slice e.a0 e.t.n0 e.c0, .int .i64 e.t.nx, .int .i64 e.t.md, .int .i64 e.t.pf, .slice e.a1 e.t.n1 e.c1] 39)).alloc (.cells #[.int .i64 e.t.pe] 3)) := by
          refine ⟨fun i hi => ?_, .inr ⟨_, _, rfl⟩⟩
          have : i = 0 := by simpa using hi
          subst this
          exact ⟨_, _, rfl, by simp, by simp [go_sem]⟩
        have hown := ownN_below hOX.out (below_box (o := .cells #[.int .i64 e.t.pe] 3) (Below.refl _ _))
        have hlq : M.length + [e.t.pe].length ≤ 8589934593 := by simp only [List.length_cons, List.length_nil]; omega
        have hbq : w3.heap.size ≤ ((wr.alloc (.cells #[.int .i64 e.t.pe, .int .i64 e.t.o, .slice e.a0 e.t.n0 e.c0, .int .i64 e.t.nx, .int .i64 e.t.md, .int .i64 e.t.pf, .slice e.a1 e.t.n1 e.c1] 39)).alloc (.cells #[.int .i64 e.t.pe] 3)).heap.size := by have := hb.size; simp; omega
        have hsrc := hide hsrc
        have hown := hide hown
        have hlq := hide hlq
        have hbq := hide hbq
        go_wp2_with (first | (at_builtin; refine wpList_appN numInt rfl _ _ rfl w3.heap.size _ M rfl hown.out (some ⟨wr.heap.size + 1, 0, none⟩) [e.t.pe] 1 1 rfl rfl hsrc.out hlq.out (by decide) hbq.out ?_))
        intro v' w4 hO4 b4 _ _
        go_wp2_with fail
        exact ⟨⟨k + 1, by go_num, by omega, by rw [hN.out]; exact hO4, (dX.out.trans ((below_box (Below.refl _ _)).mono hs3)).trans b4⟩, by simp [intOf]; omega⟩
      · have hlt' : ¬ (k : Int) < (n : Int) := by omega
        obtain rfl : k = n := by omega
        have hT : S.take k = S := by rw [List.take_of_length_le (by rw [hsl'.out]; exact Nat.le_refl _)]
        rw [hT, hSR.out] at hO
        obtain ⟨va2, vc2, rfl, _, _⟩ := ownN_row hO
        have hO := hide (ownN_base hO (base' := w.heap.size) d3.size)
        have dF := d3.trans (hb.mono d3.size)
        clear hT hRS hSR
        go_wp2_with fail
        go_ret2
        exact ⟨_, rfl, hO.out, dF⟩
end Go.Proofs.Ytgkjokobbeahfaa
