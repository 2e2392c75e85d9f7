/- offerOf, best and bestIn of the program. -/
import Derived.Test.YtjjdfniemlcnnaaKept13b
import Derived.Test.YtjjdfniemlcnnaaI8y
import Derived.Test.YtjjdfniemlcnnaaSI8
namespace Go.Proofs.Ytjjdfniemlcnnaa
open Go.RowKit

/-- The first offer of a peer. -/
def foB (n : Nat) (T : Nat → Oc) (x : Int) : Bool := (lsO n T).any (fun t => t.pe == x)
def foT (n : Nat) (T : Nat → Oc) (x : Int) : Oc := ((lsO n T).find? (fun t => t.pe == x)).getD oc0
def FoIs (n : Nat) (T : Nat → Oc) (x : Int) (q : Oe) (w : World) : Prop := q.t = foT n T x ∧ (foB n T x = true → SrcO w q) ∧ (foB n T x = false → q = oe0)
theorem find_at {L : List Oc} {P : Oc → Bool} {k : Nat} (hk : k < L.length) (h : ∀ i, (hi : i < k) → P (L[i]'(by omega)) = false) (h1 : P L[k] = true) : L.find? P = some L[k] := by
  induction L generalizing k with
  | nil => simp at hk
  | cons a L ih =>
    cases k with
    | zero => simp at h1; simp [List.find?, h1]
    | succ k =>
      have h0 := h 0 (by omega)
      simp at h0
      simp only [List.find?, h0]
      exact ih (by simpa using hk) (fun i hi => by simpa using h (i + 1) (by omega)) (by simpa using h1)
theorem fo_yes {n : Nat} {T : Nat → Oc} {x : Int} {k : Nat} (hk : k < n) (h : ∀ i, i < k → (T i).pe ≠ x) (h1 : (T k).pe = x) : foB n T x = true ∧ foT n T x = T k := by
  have hl : k < (lsO n T).length := by rw [lsO_len]; exact hk
  have e : ∀ i (hi : i < (lsO n T).length), (lsO n T)[i] = T i := fun i hi => by simp [lsO]
  refine ⟨List.any_eq_true.2 ⟨T k, ?_, by simpa using h1⟩, ?_⟩
  · rw [← e k hl]; exact List.getElem_mem hl
  · unfold foT
    rw [find_at (k := k) hl (fun i hi => by rw [e]; simpa using h i hi) (by rw [e]; simpa using h1), e]
    rfl
theorem fo_no {n : Nat} {T : Nat → Oc} {x : Int} (h : ∀ i, i < n → (T i).pe ≠ x) : foB n T x = false ∧ foT n T x = oc0 := by
  have hm : ∀ t, t ∈ lsO n T → (t.pe == x) = false := by
    intro t ht
    obtain ⟨i, hi, rfl⟩ := List.mem_map.1 ht
    simpa using h i (List.mem_range.1 hi)
  refine ⟨?_, ?_⟩
  · unfold foB
    rw [List.any_eq_false]
    intro t ht
    rw [hm t ht]
    simp
  · unfold foT
    rw [List.find?_eq_none.2 (fun t ht => by rw [hm t ht]; simp)]
    rfl
/-- In good offers the best one's peer has no other offer. -/
theorem fo_best {n : Nat} {T : Nat → Oc} {x : Int} (hg : osB n T = true) (hb : bfB n T x = true) : foB n T (bfT n T x).pe = true ∧ foT n T (bfT n T x).pe = bfT n T x := by
  have hmem : bfT n T x ∈ lsO n T := by
    rw [bfT_yes hb]
    have hl : 0 < (flO n T x).length := by simpa [bfB] using hb
    have hp := pkO_le (TL (flO n T x)) ((flO n T x).length - 1)
    rw [TL_eq (by omega)]
    exact (List.mem_filter.1 (List.getElem_mem _)).1
  obtain ⟨k, hk, e⟩ := List.mem_map.1 hmem
  have hk := List.mem_range.1 hk
  rw [← e]
  refine fo_yes hk (fun i hi he => ?_) rfl
  have := os_lt hg k hk i hi
  omega
set_option maxRecDepth 100000 in
set_option maxHeartbeats 3200000 in
theorem i_offerOf (a : Option Addr) (n c : Nat) (T : Nat → Oc) (x : Int) (w00 w : World) (hn : n ≤ 1048576) (hR : RowOS a n T w00) (hbb : Below w00.heap.size w00 w) :
    Calls Try.prog 44 #[.slice a n c, .int .i64 x] w fun e w' => ∃ q : Oe, e = .returned (.tuple #[.agg #[.int .i64 q.t.pe, .int .i64 q.t.o, .slice q.a0 q.t.n0 q.c0, .int .i64 q.t.nx, .int .i64 q.t.md, .int .i64 q.t.pf, .slice q.a1 q.t.n1 q.c1], .bool (foB n T x)]) ∧ FoIs n T x q w00 ∧ Below w.heap.size w w' := by
  obtain ⟨L, hL, hmap, hU0, hS⟩ := hR
  have hU := hU0.below hbb
  have hT : Hid (∀ i, i < n → (uAt L i).t = T i) := by
    intro i hi
    have h1 : (L.map (·.t))[i]? = (lsO n T)[i]? := by rw [hmap]
    rw [List.getElem?_map, List.getElem?_eq_getElem (by omega), List.getElem?_eq_getElem (by rw [lsO_len]; exact hi)] at h1
    rw [uAt_eq (by omega)]
    simpa [lsO] using h1
  have hS := hide hS
  have hB0 : Below w.heap.size w (w.alloc (.cells #[.int .i64 0, .int .i64 0, .slice none 0 0, .int .i64 0, .int .i64 0, .int .i64 0, .slice none 0 0] 49)) := below_box (Below.refl _ _)
  have MR := Mut.new w #[.int .i64 0, .int .i64 0, .slice none 0 0, .int .i64 0, .int .i64 0, .int .i64 0, .slice none 0 0] 49
  clear hmap hU0
  go_enter Try.func44, Try.ntmps44
  go_wp2_with fail
  generalize w.alloc (.cells #[.int .i64 0, .int .i64 0, .slice none 0 0, .int .i64 0, .int .i64 0, .int .i64 0, .slice none 0 0] 49) = W at *
  go_loopw [10] (fun y wr => ∃ k : Nat, y = .int .i64 k ∧ k ≤ n ∧ Hid (∀ i, i < k → (T i).pe ≠ x) ∧ Below W.heap.size W wr) (fun y _ => n - (intOf y).toNat)
  case atStart => exact ⟨0, rfl, Nat.zero_le _, fun i hi => absurd hi (by omega), Below.refl _ _⟩
  case round =>
    obtain ⟨k, rfl, hk, hall, hb0⟩ := hrel
    have hb := hB0.trans (hb0.mono hB0.size)
    have MRr := MR.below hb0
    clear MR
    by_cases hlt : k < n
    · have hlt' : (k : Int) < (n : Int) := by omega
      obtain ⟨b, off, rfl, hbw, u0, u1, u2, u3, u4, u5, u6⟩ := hU k (by omega)
      replace u0 := (hb.cell (p := ⟨b, off + k * 7, none⟩) hbw).trans u0
      replace u1 := (hb.cell (p := ⟨b, off + k * 7 + 1, none⟩) hbw).trans u1
      replace u2 := (hb.cell (p := ⟨b, off + k * 7 + 2, none⟩) hbw).trans u2
      replace u3 := (hb.cell (p := ⟨b, off + k * 7 + 3, none⟩) hbw).trans u3
      replace u4 := (hb.cell (p := ⟨b, off + k * 7 + 4, none⟩) hbw).trans u4
      replace u5 := (hb.cell (p := ⟨b, off + k * 7 + 5, none⟩) hbw).trans u5
      replace u6 := (hb.cell (p := ⟨b, off + k * 7 + 6, none⟩) hbw).trans u6
      have hte := hide (hT.out k hlt)
      have hsr := hide (hS.out _ (uAt_mem (show k < L.length by omega)))
      generalize uAt L k = e at *
      have bX : Below wr.heap.size wr (wr.alloc (.cells #[.int .i64 e.t.pe, .int .i64 e.t.o, .slice e.a0 e.t.n0 e.c0, .int .i64 e.t.nx, .int .i64 e.t.md, .int .i64 e.t.pf, .slice e.a1 e.t.n1 e.c1] 49)) := below_box (Below.refl _ _)
      have dX := hb.trans (bX.mono hb.size)
      by_cases hx : e.t.pe = x
      · have hx' : (e.t.pe == x) = true := by simpa using hx
        have hF := hide (fo_yes (T := T) hlt hall.out (by rw [← hte.out]; exact hx))
        have M3 := MRr.below bX
        have g0 := M3.2.1 0 _ rfl
        have z0 := M3.2.2 0 (by simp)
        have g1 := M3.2.1 1 _ rfl
        have z1 := M3.2.2 1 (by simp)
        have g2 := M3.2.1 2 _ rfl
        have z2 := M3.2.2 2 (by simp)
        have g3 := M3.2.1 3 _ rfl
        have z3 := M3.2.2 3 (by simp)
        have g4 := M3.2.1 4 _ rfl
        have z4 := M3.2.2 4 (by simp)
        have g5 := M3.2.1 5 _ rfl
        have z5 := M3.2.2 5 (by simp)
        have g6 := M3.2.1 6 _ rfl
        have z6 := M3.2.2 6 (by simp)
        clear hall hU hx M3 MRr bX
        go_wp2_with fail
        rw [hF.out.1]
        refine bodyPost_ret (v := .tuple #[.agg #[.int .i64 e.t.pe, .int .i64 e.t.o, .slice e.a0 e.t.n0 e.c0, .int .i64 e.t.nx, .int .i64 e.t.md, .int .i64 e.t.pf, .slice e.a1 e.t.n1 e.c1], .bool true]) (by simp [results, Try.results44, go_sem, *]) rfl ⟨e, rfl, ⟨hte.out.trans hF.out.2.symm, fun _ => hsr.out, fun e' => (by rw [hF.out.1] at e'; cases e')⟩, ?_⟩
        refine Below.setCell (Below.setCell (Below.setCell (Below.setCell (Below.setCell (Below.setCell (Below.setCell (dX) ?_ _) ?_ _) ?_ _) ?_ _) ?_ _) ?_ _) ?_ _ <;> (simp; try omega)
      · have hx' : (e.t.pe == x) = false := by simpa using hx
        have hN : Hid (∀ i, i < k + 1 → (T i).pe ≠ x) := by
          intro i hi
          by_cases cc : i = k
          · rw [cc, ← hte.out]; exact hx
          · exact hall.out i (by omega)
        have dY := hb0.trans (bX.mono hb0.size)
        clear hall hU hx MRr bX
        go_wp2_with fail
        exact ⟨⟨k + 1, by go_num, by omega, hN.out, dY⟩, by simp [intOf]; omega⟩
    · have hlt' : ¬ (k : Int) < (n : Int) := by omega
      obtain rfl : k = n := by omega
      have hF := hide (fo_no (T := T) hall.out)
      have g0 := MRr.2.1 0 _ rfl
      have z0 := MRr.2.2 0 (by simp)
      have g1 := MRr.2.1 1 _ rfl
      have z1 := MRr.2.2 1 (by simp)
      have g2 := MRr.2.1 2 _ rfl
      have z2 := MRr.2.2 2 (by simp)
      have g3 := MRr.2.1 3 _ rfl
      have z3 := MRr.2.2 3 (by simp)
      have g4 := MRr.2.1 4 _ rfl
      have z4 := MRr.2.2 4 (by simp)
      have g5 := MRr.2.1 5 _ rfl
      have z5 := MRr.2.2 5 (by simp)
      have g6 := MRr.2.1 6 _ rfl
      have z6 := MRr.2.2 6 (by simp)
      clear hall hU MRr
      go_wp2_with fail
      rw [hF.out.1]
      refine bodyPost_ret (v := .tuple #[.agg #[.int .i64 0, .int .i64 0, .slice none 0 0, .int .i64 0, .int .i64 0, .int .i64 0, .slice none 0 0], .bool false]) (by simp [results, Try.results44, go_sem, *]) rfl ⟨oe0, rfl, ⟨hF.out.2.symm, fun e => (by rw [hF.out.1] at e; cases e), fun _ => rfl⟩, ?_⟩
      refine Below.setCell (Below.setCell (Below.setCell (Below.setCell (Below.setCell (Below.setCell (Below.setCell (hb) ?_ _) ?_ _) ?_ _) ?_ _) ?_ _) ?_ _) ?_ _ <;> (simp; try omega)
set_option maxRecDepth 100000 in
set_option maxHeartbeats 3200000 in
theorem i_best (ad ln : Int) (a : Option Addr) (n c : Nat) (T : Nat → Oc) (x : Int) (w00 w : World) (hn : n ≤ 1048576) (hx : inB x 1 65535 = true) (hg : osB n T = true) (hR : RowOS a n T w00) (hbb : Below w00.heap.size w00 w) :
    Calls Try.prog 73 #[.agg #[.int .i64 ad, .int .i64 ln, .slice a n c], .int .i64 x] w fun e w' => ∃ q : Oe, e = .returned (.tuple #[.agg #[.int .i64 q.t.pe, .int .i64 q.t.o, .slice q.a0 q.t.n0 q.c0, .int .i64 q.t.nx, .int .i64 q.t.md, .int .i64 q.t.pf, .slice q.a1 q.t.n1 q.c1], .bool (bfB n T x)]) ∧ BfIs n T x q w00 ∧ Below w.heap.size w w' := by
  have BB := hide (fun w R => i_bestBy a n c T x w hn hR.low R)
  have OO := hide (fun y w b => i_offerOf a n c T y w00 w hn hR b)
  have hK : byK n T x = bfB n T x := by simp [byK, bfB, hg, hx]
  have hV : byV n T x = (bfT n T x).pe := by
    cases hb : bfB n T x with
    | true => rw [byV, if_pos (hK.trans hb), bfT_yes hb]
    | false => rw [byV_no (hK.trans hb), bfT_no hb]; rfl
  rw [hK, hV] at BB
  have M1 := (Mut.new w #[.int .i64 ad, .int .i64 ln, .slice a n c] 71).alloc (.cells #[.int .i64 0, .int .i64 0, .slice none 0 0, .int .i64 0, .int .i64 0, .int .i64 0, .slice none 0 0] 49)
  have M2 := Mut.new (w.alloc (.cells #[.int .i64 ad, .int .i64 ln, .slice a n c] 71)) #[.int .i64 0, .int .i64 0, .slice none 0 0, .int .i64 0, .int .i64 0, .int .i64 0, .slice none 0 0] 49
  have d2 : Below w.heap.size w ((w.alloc (.cells #[.int .i64 ad, .int .i64 ln, .slice a n c] 71)).alloc (.cells #[.int .i64 0, .int .i64 0, .slice none 0 0, .int .i64 0, .int .i64 0, .int .i64 0, .slice none 0 0] 49)) := below_box2 (Below.refl _ _)
  simp only [World.size_alloc] at M2
  have dd := hbb.trans (d2.mono hbb.size)
  have RR := hide (hR.row.below dd)
  cases hb : bfB n T x with
  | false =>
    have hT := hide (bfT_no hb)
    have hb1 := hide hb
    rw [hb] at BB
    clear hK hV hb hR
    go_enter Try.func73, Try.ntmps73
    go_wp2_with fail
    generalize (w.alloc (.cells #[.int .i64 ad, .int .i64 ln, .slice a n c] 71)).alloc (.cells #[.int .i64 0, .int .i64 0, .slice none 0 0, .int .i64 0, .int .i64 0, .int .i64 0, .slice none 0 0] 49) = W at *
    refine (BB.out _ RR.out).mono ?_
    rintro e w1 ⟨rfl, b1⟩
    have M3 := M2.below b1
    have g0 := M3.2.1 0 _ rfl
    have z0 := M3.2.2 0 (by simp)
    have g1 := M3.2.1 1 _ rfl
    have z1 := M3.2.2 1 (by simp)
    have g2 := M3.2.1 2 _ rfl
    have z2 := M3.2.2 2 (by simp)
    have g3 := M3.2.1 3 _ rfl
    have z3 := M3.2.2 3 (by simp)
    have g4 := M3.2.1 4 _ rfl
    have z4 := M3.2.2 4 (by simp)
    have g5 := M3.2.1 5 _ rfl
    have z5 := M3.2.2 5 (by simp)
    have g6 := M3.2.1 6 _ rfl
    have z6 := M3.2.2 6 (by simp)
    have dF := d2.trans (b1.mono d2.size)
    clear M1 M2 M3 b1 d2
    go_wp2_with fail
    refine bodyPost_ret (v := .tuple #[.agg #[.int .i64 0, .int .i64 0, .slice none 0 0, .int .i64 0, .int .i64 0, .int .i64 0, .slice none 0 0], .bool false]) (by simp [results, Try.results73, go_sem, *]) rfl ⟨oe0, rfl, ⟨hT.out.symm, fun e => (by rw [hb1.out] at e; cases e), fun _ => rfl⟩, ?_⟩
    refine Below.setCell (Below.setCell (Below.setCell (Below.setCell (Below.setCell (Below.setCell (Below.setCell (dF) ?_ _) ?_ _) ?_ _) ?_ _) ?_ _) ?_ _) ?_ _ <;> (simp; try omega)
  | true =>
    have hfo := fo_best hg hb
    have OO := hide (OO.out (bfT n T x).pe)
    have hfin : Hid (∀ q, FoIs n T (bfT n T x).pe q w00 → BfIs n T x q w00) := by
      rintro q ⟨h1, h2, h3⟩
      rw [hfo.1] at h2
      rw [hfo.2] at h1
      exact ⟨h1, fun _ => h2 rfl, fun e => by rw [hb] at e; cases e⟩
    rw [hfo.1] at OO
    rw [hb] at BB
    generalize (bfT n T x).pe = y at *
    clear hK hV hb hR hfo
    go_enter Try.func73, Try.ntmps73
    go_wp2_with fail
    generalize (w.alloc (.cells #[.int .i64 ad, .int .i64 ln, .slice a n c] 71)).alloc (.cells #[.int .i64 0, .int .i64 0, .slice none 0 0, .int .i64 0, .int .i64 0, .int .i64 0, .slice none 0 0] 49) = W at *
    refine (BB.out _ RR.out).mono ?_
    rintro e w1 ⟨rfl, b1⟩
    have N1 := M1.below b1
    have N2 := M2.below b1
    have dF := d2.trans (b1.mono d2.size)
    have dg := hbb.trans (dF.mono hbb.size)
    have m2 := N1.2.1 2 _ rfl
    clear M1 M2 b1 d2 dd
    go_wp2_with fail
    refine (OO.out _ dg).mono ?_
    rintro e w2 ⟨q, rfl, hq, b2⟩
    have M3 := N2.below b2
    have g0 := M3.2.1 0 _ rfl
    have z0 := M3.2.2 0 (by simp)
    have g1 := M3.2.1 1 _ rfl
    have z1 := M3.2.2 1 (by simp)
    have g2 := M3.2.1 2 _ rfl
    have z2 := M3.2.2 2 (by simp)
    have g3 := M3.2.1 3 _ rfl
    have z3 := M3.2.2 3 (by simp)
    have g4 := M3.2.1 4 _ rfl
    have z4 := M3.2.2 4 (by simp)
    have g5 := M3.2.1 5 _ rfl
    have z5 := M3.2.2 5 (by simp)
    have g6 := M3.2.1 6 _ rfl
    have z6 := M3.2.2 6 (by simp)
    have dF := dF.trans (b2.mono dF.size)
    clear N1 N2 M3 b2 m2
    go_wp2_with fail
    refine bodyPost_ret (v := .tuple #[.agg #[.int .i64 q.t.pe, .int .i64 q.t.o, .slice q.a0 q.t.n0 q.c0, .int .i64 q.t.nx, .int .i64 q.t.md, .int .i64 q.t.pf, .slice q.a1 q.t.n1 q.c1], .bool true]) (by simp [results, Try.results73, go_sem, *]) rfl ⟨q, rfl, hfin.out q hq, ?_⟩
    refine Below.setCell (Below.setCell (Below.setCell (Below.setCell (Below.setCell (Below.setCell (Below.setCell (dF) ?_ _) ?_ _) ?_ _) ?_ _) ?_ _) ?_ _) ?_ _ <;> (simp; try omega)
set_option maxRecDepth 100000 in
set_option maxHeartbeats 3200000 in
theorem i_bestIn (ow : Int) (a : Option Addr) (n c : Nat) (U : Nat → Rc) (pa pl : Int) (w00 w : World) (hG : GRib ow n U) (hp : goodB pa pl = true) (hl : LowR n U) (hR : RowRT a n U w00 w) (hbb : Below w00.heap.size w00 w) :
    Calls Try.prog 51 #[.slice a n c, .int .i64 ow, .agg #[.int .i64 pa, .int .i64 pl]] w fun e w' => ∃ q : Oe, e = .returned (.tuple #[.agg #[.int .i64 q.t.pe, .int .i64 q.t.o, .slice q.a0 q.t.n0 q.c0, .int .i64 q.t.nx, .int .i64 q.t.md, .int .i64 q.t.pf, .slice q.a1 q.t.n1 q.c1], .bool (baB ow n U pa pl)]) ∧ BaIs ow n U pa pl q w00 ∧ Below w.heap.size w w' := by
  have hn := hG.few
  have PO := hide (fun w R => i_placeOf a n c U pa pl w (by omega) hG.pre hp R)
  have MP := (Mut.new w #[.int .i64 pa, .int .i64 pl] 52).alloc (.cells #[.int .i64 0, .int .i64 0, .slice none 0 0, .int .i64 0, .int .i64 0, .int .i64 0, .slice none 0 0] 49)
  have M2 := Mut.new (w.alloc (.cells #[.int .i64 pa, .int .i64 pl] 52)) #[.int .i64 0, .int .i64 0, .slice none 0 0, .int .i64 0, .int .i64 0, .int .i64 0, .slice none 0 0] 49
  have d2 : Below w.heap.size w ((w.alloc (.cells #[.int .i64 pa, .int .i64 pl] 52)).alloc (.cells #[.int .i64 0, .int .i64 0, .slice none 0 0, .int .i64 0, .int .i64 0, .int .i64 0, .slice none 0 0] 49)) := below_box2 (Below.refl _ _)
  simp only [World.size_alloc] at M2
  have RA := hide ((hR.below d2).row (hbb.trans (d2.mono hbb.size)))
  cases hK : plK U n pa pl with
  | false =>
    have hE := hide (baIs_no (ow := ow) hK w00)
    have hb0 := hide (ba_no (ow := ow) hK).1
    rw [hK] at PO
    clear hR hK hG
    go_enter Try.func51, Try.ntmps51
    go_wp2_with fail
    generalize (w.alloc (.cells #[.int .i64 pa, .int .i64 pl] 52)).alloc (.cells #[.int .i64 0, .int .i64 0, .slice none 0 0, .int .i64 0, .int .i64 0, .int .i64 0, .slice none 0 0] 49) = W at *
    refine (PO.out _ RA.out).mono ?_
    rintro e w1 ⟨rfl, b1⟩
    have M3 := M2.below b1
    have g0 := M3.2.1 0 _ rfl
    have z0 := M3.2.2 0 (by simp)
    have g1 := M3.2.1 1 _ rfl
    have z1 := M3.2.2 1 (by simp)
    have g2 := M3.2.1 2 _ rfl
    have z2 := M3.2.2 2 (by simp)
    have g3 := M3.2.1 3 _ rfl
    have z3 := M3.2.2 3 (by simp)
    have g4 := M3.2.1 4 _ rfl
    have z4 := M3.2.2 4 (by simp)
    have g5 := M3.2.1 5 _ rfl
    have z5 := M3.2.2 5 (by simp)
    have g6 := M3.2.1 6 _ rfl
    have z6 := M3.2.2 6 (by simp)
    have dF := d2.trans (b1.mono d2.size)
    clear MP M2 M3 b1 d2
    go_wp2_with fail
    rw [hb0.out]
    refine bodyPost_ret (v := .tuple #[.agg #[.int .i64 0, .int .i64 0, .slice none 0 0, .int .i64 0, .int .i64 0, .int .i64 0, .slice none 0 0], .bool false]) (by simp [results, Try.results51, go_sem, *]) rfl ⟨oe0, rfl, hE.out, ?_⟩
    refine Below.setCell (Below.setCell (Below.setCell (Below.setCell (Below.setCell (Below.setCell (Below.setCell (dF) ?_ _) ?_ _) ?_ _) ?_ _) ?_ _) ?_ _) ?_ _ <;> (simp; try omega)
  | true =>
    have hlt := plK_lt hK
    have hfin := hide (fun q h => baIs_yes (ow := ow) hK (q := q) (w := w00) h)
    have hb0 := hide (ba_yes (ow := ow) hK).1
    rw [hK] at PO
    obtain ⟨b, off, a0, c0, rfl, hbw, u0, u1, u2, ht⟩ := hR _ hlt
    have LB := hide (fun w hb => i_best (U (plN U n pa pl)).ad (U (plN U n pa pl)).ln a0 (U (plN U n pa pl)).n c0 (U (plN U n pa pl)).T ow w00 w (hl _ hlt).1 (inB_t hG.own.1 hG.own.2) (hG.off _ hlt) ht hb)
    replace u0 := (d2.cell (p := ⟨b, off + plN U n pa pl * 3, none⟩) hbw).trans u0
    replace u1 := (d2.cell (p := ⟨b, off + plN U n pa pl * 3 + 1, none⟩) hbw).trans u1
    replace u2 := (d2.cell (p := ⟨b, off + plN U n pa pl * 3 + 2, none⟩) hbw).trans u2
    have u0 := hide u0
    have u1 := hide u1
    have u2 := hide u2
    have hltW := Nat.lt_of_lt_of_le hbw d2.size
    clear ht hK hR hG
    generalize baB ow n U pa pl = bb at *
    generalize plN U n pa pl = k at *
    have hlt' : (k : Int) < (n : Int) := by omega
    generalize U k = t at *
    go_enter Try.func51, Try.ntmps51
    go_wp2_with fail
    generalize (w.alloc (.cells #[.int .i64 pa, .int .i64 pl] 52)).alloc (.cells #[.int .i64 0, .int .i64 0, .slice none 0 0, .int .i64 0, .int .i64 0, .int .i64 0, .slice none 0 0] 49) = W at *
    refine (PO.out _ RA.out).mono ?_
    rintro e w1 ⟨rfl, b1⟩
    have N2 := M2.below b1
    have v0 := (b1.cell (p := ⟨b, off + k * 3, none⟩) hltW).trans u0.out
    have v1 := (b1.cell (p := ⟨b, off + k * 3 + 1, none⟩) hltW).trans u1.out
    have v2 := (b1.cell (p := ⟨b, off + k * 3 + 2, none⟩) hltW).trans u2.out
    have dF := d2.trans (b1.mono d2.size)
    have dg := hbb.trans (dF.mono hbb.size)
    clear MP M2 b1 d2 u0 u1 u2
    go_wp2_with fail
    refine (LB.out _ dg).mono ?_
    rintro e w2 ⟨q, rfl, hq, b2⟩
    have M3 := N2.below b2
    have g0 := M3.2.1 0 _ rfl
    have z0 := M3.2.2 0 (by simp)
    have g1 := M3.2.1 1 _ rfl
    have z1 := M3.2.2 1 (by simp)
    have g2 := M3.2.1 2 _ rfl
    have z2 := M3.2.2 2 (by simp)
    have g3 := M3.2.1 3 _ rfl
    have z3 := M3.2.2 3 (by simp)
    have g4 := M3.2.1 4 _ rfl
    have z4 := M3.2.2 4 (by simp)
    have g5 := M3.2.1 5 _ rfl
    have z5 := M3.2.2 5 (by simp)
    have g6 := M3.2.1 6 _ rfl
    have z6 := M3.2.2 6 (by simp)
    have dF := dF.trans (b2.mono dF.size)
    clear N2 M3 b2 v0 v1 v2
    go_wp2_with fail
    rw [hb0.out]
    refine bodyPost_ret (v := .tuple #[.agg #[.int .i64 q.t.pe, .int .i64 q.t.o, .slice q.a0 q.t.n0 q.c0, .int .i64 q.t.nx, .int .i64 q.t.md, .int .i64 q.t.pf, .slice q.a1 q.t.n1 q.c1], .bool (bfB t.n t.T ow)]) (by simp [results, Try.results51, go_sem, *]) rfl ⟨q, rfl, hfin.out q hq, ?_⟩
    refine Below.setCell (Below.setCell (Below.setCell (Below.setCell (Below.setCell (Below.setCell (Below.setCell (dF) ?_ _) ?_ _) ?_ _) ?_ _) ?_ _) ?_ _) ?_ _ <;> (simp; try omega)
end Go.Proofs.Ytjjdfniemlcnnaa
