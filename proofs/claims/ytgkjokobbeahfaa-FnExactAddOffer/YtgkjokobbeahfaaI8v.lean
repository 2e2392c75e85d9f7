/- AddOffer of the program. -/
import Derived.Test.YtgkjokobbeahfaaI8u
import Derived.Test.YtgkjokobbeahfaaI8p
import Derived.Test.YtgkjokobbeahfaaSI8
import Derived.Test.YtgkjokobbeahfaaAdd8
import Derived.Test.YtgkjokobbeahfaaAns8b
namespace Go.Proofs.Ytgkjokobbeahfaa
open Go.RowKit

theorem drO_df (x : Int) (L : List Oe) : drO x L = dfO (L.map (·.t)) x := filter_map_t L (fun t => t.pe != x)
theorem cpO_map (x : Int) (L : List Oe) : cpO x L = (L.map (·.t)).countP (fun t => decide (t.pe < x)) := by
  unfold cpO
  rw [List.countP_map]
  rfl
theorem cp_le (D : List Oc) (x : Int) : D.countP (fun t => decide (t.pe < x)) ≤ (dfO D x).length := by
  unfold dfO
  rw [← List.countP_eq_length_filter]
  refine List.countP_mono_left (fun t _ h => ?_)
  simp at h ⊢
  omega
/-- What the insertion leaves is an answer. -/
theorem add_ans {base z c cp p : Nat} {v : Value} {M : List Oe} {q : Oe} {t : Oc} {w w' : World} (hL : LsO base v M w) (hq : NewO z t w q) (hbz : base ≤ z) (hz : ∀ e, e ∈ M → byO e < z) (hg : ∀ g, v.ownBlock = some g → g < z) (hb : base ≤ c)
    (hM : Mut w' c (ucells (M.take p ++ q :: M.drop p))) (hO : OnlyS (fun k => v.ownBlock = some k) w w') (hc : v.ownBlock = some c ∨ w.heap.size ≤ c) : AnsO base (.slice (some ⟨c, 0, none⟩) (M.length + 1) cp) ((M.take p ++ q :: M.drop p).map (·.t)) w' := by
  obtain ⟨q0, q1, q2, q3, q4, q5, q6⟩ := hq
  have hperm : (M.take p ++ q :: M.drop p).Perm (q :: M) := by
    have h1 : (M.take p ++ q :: M.drop p).Perm (q :: (M.take p ++ M.drop p)) := List.perm_middle
    rwa [List.take_append_drop] at h1
  have hlen : M.length + 1 = (M.take p ++ q :: M.drop p).length := by rw [hperm.length_eq]; rfl
  rw [hlen]
  have hqc : bxO q ≠ c ∧ byO q ≠ c := by
    rcases hc with h | h
    · have := hg c h; exact ⟨by omega, by omega⟩
    · have h5 := q5.1; have h6 := q6.1; exact ⟨by omega, by omega⟩
  refine ans_mut hM hb (fun e he => ?_) ?_
  · rcases List.mem_cons.1 (hperm.subset he) with rfl | he
    · exact ⟨q1, q2, by omega, by omega, by omega, hqc.1, hqc.2, q5.onlyS hO (fun h => by have := hg _ h; omega), q6.onlyS hO (fun h => by have := hg _ h; omega)⟩
    · obtain ⟨k1, k2, k3, k4, k5, k6, k7, k8⟩ := hL.2.1 e he
      have hne : bxO e ≠ c ∧ byO e ≠ c := by
        rcases hc with h | h
        · exact ⟨fun h' => k5 (by rw [h, h']), fun h' => k6 (by rw [h, h'])⟩
        · have h7 := k7.1; have h8 := k8.1; exact ⟨by omega, by omega⟩
      exact ⟨k1, k2, k3, by omega, by omega, hne.1, hne.2, k7.onlyS hO k5, k8.onlyS hO k6⟩
  · refine (hperm.symm.pairwise_iff (fun {a b} (h : DisO a b) => h.symm)).1 (List.pairwise_cons.2 ⟨fun e he => ?_, ?_⟩)
    · obtain ⟨k1, k2, k3, k4, _⟩ := hL.2.1 e he
      have := hz e he
      exact ⟨by omega, by omega, by omega, by omega⟩
    · refine (List.Pairwise.and_mem.1 hL.2.2).imp (fun {a b} h => ?_)
      obtain ⟨ha, hb, hlt⟩ := h
      obtain ⟨_, _, _, a4, _⟩ := hL.2.1 a ha
      obtain ⟨_, _, _, b4, _⟩ := hL.2.1 b hb
      exact ⟨by omega, by omega, by omega, by omega⟩
set_option maxRecDepth 100000 in
set_option maxHeartbeats 1600000 in
theorem i_addOffer (a : Option Addr) (L : List Oe) (c : Nat) (e : Oe) (w : World) (hl : L.length ≤ 1048576) (hU : RowU a L w) (hS : ∀ e, e ∈ L → SrcO w e) (hE : SrcO w e) :
    Calls Try.prog 33 #[.slice a L.length c, .agg #[.int .i64 e.t.pe, .int .i64 e.t.o, .slice e.a0 e.t.n0 e.c0, .int .i64 e.t.nx, .int .i64 e.t.md, .int .i64 e.t.pf, .slice e.a1 e.t.n1 e.c1]] w fun r w' => ∃ v, r = .returned (.tuple #[v, .bool (adK (L.map (·.t)) e.t)]) ∧ AnsO w.heap.size v (adL (L.map (·.t)) e.t) w' ∧ Below w.heap.size w w' := by
  have hlen : (L.map (·.t)).length = L.length := by simp
  have G := hide (fun w R => i_goodOffers a L.length c (TL (L.map (·.t))) w hl (low_src hS) R)
  have GO := hide (fun w R => i_goodOffer e.a0 e.c0 e.a1 e.c1 e.t w hE.2.2.2.1 hE.2.2.2.2 R)
  have P := hide (fun w hU hS => i_apart a L c e.t.pe w hl hU hS)
  have OW := hide (fun w h => i_ownOffer e w h)
  have hR := hide (rowO_src hU hS)
  have hnil : ∀ w' : World, AnsO w.heap.size (.slice none 0 0) [] w' := fun w' => ⟨none, 0, rfl, fun i hi => absurd hi (Nat.not_lt_zero _), .inl rfl⟩
  have M0 := Mut.new w #[.int .i64 e.t.pe, .int .i64 e.t.o, .slice e.a0 e.t.n0 e.c0, .int .i64 e.t.nx, .int .i64 e.t.md, .int .i64 e.t.pf, .slice e.a1 e.t.n1 e.c1] 39
  have d0 : Below w.heap.size w (w.alloc (.cells #[.int .i64 e.t.pe, .int .i64 e.t.o, .slice e.a0 e.t.n0 e.c0, .int .i64 e.t.nx, .int .i64 e.t.md, .int .i64 e.t.pf, .slice e.a1 e.t.n1 e.c1] 39)) := below_box (Below.refl _ _)
  cases hg : osB (L.map (·.t)).length (TL (L.map (·.t))) with
  | false =>
    have hk := adK_no1 (o := e.t) hg
    rw [hlen] at hg
    rw [adL_no hk, hk]
    rw [hg] at G
    clear hg hk P OW GO
    go_enter Try.func33, Try.ntmps33
    go_wp2_with fail
    refine (G.out _ (hR.out.below d0)).mono ?_
    rintro r w1 ⟨rfl, b1⟩
    go_wp2_with fail
    go_ret2
    exact ⟨_, rfl, hnil _, d0.trans (b1.mono d0.size)⟩
  | true =>
    cases hh : ofB e.t with
    | false =>
      have hk := adK_no2 (D := L.map (·.t)) hh
      rw [hlen] at hg
      rw [adL_no hk, hk]
      rw [hg] at G
      rw [hh] at GO
      clear hg hk hh P OW
      go_enter Try.func33, Try.ntmps33
      go_wp2_with fail
      refine (G.out _ (hR.out.below d0)).mono ?_
      rintro r w1 ⟨rfl, b1⟩
      have d1 := d0.trans (b1.mono d0.size)
      replace M0 := M0.below b1
      have m0 := M0.2.1 0 _ rfl
      have m1 := M0.2.1 1 _ rfl
      have m2 := M0.2.1 2 _ rfl
      have m3 := M0.2.1 3 _ rfl
      have m4 := M0.2.1 4 _ rfl
      have m5 := M0.2.1 5 _ rfl
      have m6 := M0.2.1 6 _ rfl
      go_wp2_with fail
      refine (GO.out _ (hE.2.2.1.below d1)).mono ?_
      rintro r w2 ⟨rfl, b2⟩
      go_wp2_with fail
      go_ret2
      exact ⟨_, rfl, hnil _, d1.trans (b2.mono d1.size)⟩
    | true =>
      have hk := adK_yes hg hh
      have hpw := (osB_list.1 hg).2
      have hadd := ad_eq e.t hpw
      rw [adL_yes hk, hk, ← hadd]
      rw [hlen] at hg
      rw [hg] at G
      rw [hh] at GO
      have hple := cp_le (L.map (·.t)) e.t.pe
      have hdl := dfO_le (L.map (·.t)) e.t.pe
      rw [hlen] at hdl
      rw [drO_df, cpO_map] at P
      have hP : adP (L.map (·.t)) e.t = (dfO (L.map (·.t)) e.t.pe).take ((L.map (·.t)).countP (fun t => decide (t.pe < e.t.pe))) ++ e.t :: (dfO (L.map (·.t)) e.t.pe).drop ((L.map (·.t)).countP (fun t => decide (t.pe < e.t.pe))) := rfl
      rw [hP]
      clear hg hk hh hpw hadd hP hnil
      generalize (L.map (·.t)).countP (fun t => decide (t.pe < e.t.pe)) = p at *
      generalize dfO (L.map (·.t)) e.t.pe = DF at *
      generalize L.length = n at *
      go_enter Try.func33, Try.ntmps33
      go_wp2_with fail
      refine (G.out _ (hR.out.below d0)).mono ?_
      rintro r w1 ⟨rfl, b1⟩
      have d1 := d0.trans (b1.mono d0.size)
      replace M0 := M0.below b1
      clear b1 d0
      have m0 := M0.2.1 0 _ rfl
      have m1 := M0.2.1 1 _ rfl
      have m2 := M0.2.1 2 _ rfl
      have m3 := M0.2.1 3 _ rfl
      have m4 := M0.2.1 4 _ rfl
      have m5 := M0.2.1 5 _ rfl
      have m6 := M0.2.1 6 _ rfl
      go_wp2_with fail
      refine (GO.out _ (hE.2.2.1.below d1)).mono ?_
      rintro r w2 ⟨rfl, b2⟩
      have d2 := d1.trans (b2.mono d1.size)
      replace M0 := M0.below b2
      clear b2 d1 m0 m1 m2 m3 m4 m5 m6
      have m0 := M0.2.1 0 _ rfl
      have m1 := M0.2.1 1 _ rfl
      have m2 := M0.2.1 2 _ rfl
      have m3 := M0.2.1 3 _ rfl
      have m4 := M0.2.1 4 _ rfl
      have m5 := M0.2.1 5 _ rfl
      have m6 := M0.2.1 6 _ rfl
      go_wp2_with fail
      refine (P.out _ (hU.below d2) (fun e he => (hS e he).below d2)).mono ?_
      rintro r w3 ⟨v, M, rfl, hM, hLs, b3⟩
      have d3 := d2.trans (b3.mono d2.size)
      have hs23 := b3.size
      replace M0 := M0.below b3
      clear b3 m0 m1 m2 m3 m4 m5 m6
      have m0 := M0.2.1 0 _ rfl
      have m1 := M0.2.1 1 _ rfl
      have m2 := M0.2.1 2 _ rfl
      have m3 := M0.2.1 3 _ rfl
      have m4 := M0.2.1 4 _ rfl
      have m5 := M0.2.1 5 _ rfl
      have m6 := M0.2.1 6 _ rfl
      obtain ⟨va, vc, rfl, _, _⟩ := ownU_row hLs.1
      go_wp2_with fail
      refine (OW.out _ (hE.below d3)).mono ?_
      rintro r w4 ⟨q, rfl, hq, b4⟩
      have d4 := d3.trans (b4.mono d3.size)
      have hs34 := b4.size
      have hLs4 := hLs.below b4
      have hgg : ∀ g, (Value.slice va M.length vc).ownBlock = some g → g < w3.heap.size := fun g e => (ownU_blk hLs.1 e).2
      have hzz : ∀ e', e' ∈ M → byO e' < w3.heap.size := fun e' he' => hLs.lt he'
      have bB : Below w4.heap.size w4 (w4.alloc (.cells #[.int .i64 q.t.pe, .int .i64 q.t.o, .slice q.a0 q.t.n0 q.c0, .int .i64 q.t.nx, .int .i64 q.t.md, .int .i64 q.t.pf, .slice q.a1 q.t.n1 q.c1] 39)) := below_box (Below.refl _ _)
      have hLs5 := hLs4.below bB
      have hq5 := hq.below bB
      have hV : (w4.alloc (.cells #[.int .i64 q.t.pe, .int .i64 q.t.o, .slice q.a0 q.t.n0 q.c0, .int .i64 q.t.nx, .int .i64 q.t.md, .int .i64 q.t.pf, .slice q.a1 q.t.n1 q.c1] 39)).heap[w4.heap.size]? = some (.cells (encU q).toArray 39 (0, 0)) := heap_alloc_new w4 _
      have hML : M.length = DF.length := by rw [← hM]; simp
      have IN := i_insertO w2.heap.size p w4.heap.size (.slice va M.length vc) M q (w4.alloc (.cells #[.int .i64 q.t.pe, .int .i64 q.t.o, .slice q.a0 q.t.n0 q.c0, .int .i64 q.t.nx, .int .i64 q.t.md, .int .i64 q.t.pf, .slice q.a1 q.t.n1 q.c1] 39)) hLs5.1 (by omega) (by omega) (by simp; omega) (fun e => by have := hgg _ e; have := b4.size; omega) (by simp) hV
      have IN := hide IN
      have dB := hide (d4.trans (bB.mono d4.size))
      have hLs5 := hide hLs5
      have hq5 := hide hq5
      have hMm := hide hM
      have hds := hide d2.size
      clear hML hLs hLs4 hq hV bB b4 d4 m0 m1 m2 m3 m4 m5 m6 M0 hM
      go_wp2_with fail
      refine IN.out.mono ?_
      rintro r w6 ⟨cc, cp, rfl, hb6, hM6, hO6, hc6⟩
      have hA := add_ans (p := p) (cp := cp) hLs5.out hq5.out hs23 hzz hgg hb6 hM6 hO6 hc6
      have hB6 : Below w.heap.size w w6 := dB.out.trans (hO6.below (fun k hk => Nat.le_trans hds.out (World.ownsRow.lt hLs5.out.1 k hk).1) dB.out.size)
      have hmm : (M.take p ++ q :: M.drop p).map (·.t) = DF.take p ++ e.t :: DF.drop p := by
        rw [List.map_append, List.map_cons, List.map_take, List.map_drop, hMm.out, hq5.out.1]
      rw [hmm] at hA
      have hA := hide (show AnsO w.heap.size (.slice (some ⟨cc, 0, none⟩) (M.length + 1) cp) (DF.take p ++ e.t :: DF.drop p) w6 by
        obtain ⟨ga, gc, h1, h2, h3⟩ := hA
        refine ⟨ga, gc, h1, h2, ?_⟩
        rcases h3 with h | ⟨g, X, Y, K, L, k1, k2, k3, k4⟩
        · exact .inl h
        · exact .inr ⟨g, X, Y, K, L, k1, k2, k3, fun k hk => Nat.le_trans hds.out (k4 k hk)⟩)
      clear hmm hM6 hO6 hc6 hb6 hLs5 hq5 hMm IN
      go_wp2_with fail
      go_ret2
      exact ⟨_, rfl, hA.out, hB6⟩
end Go.Proofs.Ytgkjokobbeahfaa
