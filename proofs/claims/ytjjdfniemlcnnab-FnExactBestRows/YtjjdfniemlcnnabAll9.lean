/- A list of offers and a list of prefixes as an answer: compared, marked, looked at again. -/
import Derived.Test.YtjjdfniemlcnnabRib13
import Derived.Test.YtjjdfniemlcnnabMark8q
import Derived.Test.YtjjdfniemlcnnabAll8
/- Rows and ribs that are written into. -/
namespace Go.Proofs.Ytjjdfniemlcnnab
open Go.RowKit

set_option maxRecDepth 100000 in
set_option maxHeartbeats 3200000 in
theorem w_markRowS (c n cap : Nat) (X H : Nat → Nat) (hi : Nat) (U : Nat → Rc) (w : World) (hs : n + totR U n ≤ 1048576) (hc : c < hi) (hR : RowRO c n X H hi U w) (hF : FreeB c (n * 3) w) :
    Calls Try.prog 28 #[.slice (some ⟨c, 0, none⟩) n cap, .int .i64 1] w fun e w' => ∃ r : Nat, e = .returned (.int .i64 (r : Int)) ∧ OnlyS (fun b => c ≤ b ∧ b < hi) w w' := by
  have hl : LowR n U := lowR_of (by omega)
  go_enter Try.func28, Try.ntmps28
  go_wp2_with fail
  go_loopw [1, 5] (fun x y wr => ∃ (k r : Nat), x = .int .i64 (r : Int) ∧ y = .int .i64 k ∧ k ≤ n ∧ r ≤ 1 + 2 * k + 6 * totR U k ∧ Hid (∀ i, k ≤ i → i < n → OneR c X H hi U wr i) ∧ FreeB c (n * 3) wr ∧ OnlyS (fun b => c ≤ b ∧ b < hi) w wr) (fun _ y _ => n - (intOf y).toNat)
  case atStart => exact ⟨0, 1, rfl, rfl, Nat.zero_le _, by simp, fun i _ hi => hR.2 i hi, hF, OnlyS.refl _ _⟩
  case round =>
    clear hF hR
    obtain ⟨k, r, rfl, rfl, hk, hr, hall, FC, hb⟩ := hrel
    by_cases hlt : k < n
    · have hlt' : (k : Int) < (n : Int) := by omega
      obtain ⟨g1, g2, g3, g4, g5, u0, u1, u2, G, Y, Z, o1⟩ := hall.out k (Nat.le_refl _) hlt
      have hmo := totR_mono U (show k + 1 ≤ n by omega)
      have hsu : totR U (k + 1) = totR U k + (U k).tot := rfl
      have htt : (U k).tot = (U k).n + totO (U k).T (U k).n := rfl
      obtain ⟨l1, l2⟩ := hl k hlt
      obtain ⟨hRA, hSp, hBk⟩ := o1.own G
      have MK := hide (fun w R => w_markOfferSq (r + 1 + 1) (X k) (U k).n (U k).n Y Z (fun i => ((U k).T i).n0) (fun i => ((U k).T i).n1) (U k).T w (by omega) l1 l2 hSp R)
      have hO := hide hRA
      have hE : Hid (kmQ (r + 1 + 1) (U k).T (U k).n ≤ 1 + 2 * (k + 1) + 6 * totR U (k + 1)) := by show _ ≤ _; unfold kmQ; omega
      have hpush : Hid (((r + 1 + 1 : Nat) : Int) = (r : Int) + 1 + 1) := by rw [Hid]; omega
      obtain ⟨⟨p0, e0⟩, f0⟩ := FC.2 (k * 3) (by omega)
      obtain ⟨⟨p1, e1⟩, f1⟩ := FC.2 (k * 3 + 1) (by omega)
      rw [hpush.out] at MK
      have F2 := hide ((FC.set (k * 3) (.int .i64 (r : Int))).set (k * 3 + 1) (.int .i64 ((r : Int) + 1)))
      have O2 := hide ((hb.set (c := c) ⟨Nat.le_refl _, hc⟩ (k * 3) (.int .i64 (r : Int))).set (c := c) ⟨Nat.le_refl _, hc⟩ (k * 3 + 1) (.int .i64 ((r : Int) + 1)))
      have hr30 : r ≤ 10000000 := by omega
      clear l1 l2 hsu htt hmo G o1 hSp hRA FC
      generalize kmQ (r + 1 + 1) (U k).T (U k).n = km at *
      go_wp2_with fail
      refine (MK.out _ ?_).mono ?_
      · intro i hi
        obtain ⟨M, o1, o2⟩ := hO.out i hi
        have bx := hBk (Y i) (Or.inr ⟨i, hi, Or.inl rfl⟩)
        have byy := hBk (Z i) (Or.inr ⟨i, hi, Or.inr rfl⟩)
        exact ⟨(M.onlyS ((OnlyS.refl (fun b => b = c) wr).set rfl (k * 3) (.int .i64 (r : Int))) (by omega)).onlyS ((OnlyS.refl (fun b => b = c) _).set rfl _ _) (by omega), (o1.other (by omega) _ _).other (by omega) _ _, (o2.other (by omega) _ _).other (by omega) _ _⟩
      rintro e w3 ⟨rfl, _, b3⟩
      have hN : Hid (∀ i, k + 1 ≤ i → i < n → OneR c X H hi U w3 i) := by
        intro i h1 h2
        have f0 := ((hall.out i (by omega) h2).set (q := k * 3) (by omega) (.int .i64 (r : Int))).set (q := k * 3 + 1) (by omega) (.int .i64 ((r : Int) + 1))
        have f7 := f0.2.2.2.1 k (by omega)
        have f8 := f0.1
        refine f0.onlyS b3 (fun hbk => ?_) (fun q h1 h2 hbk => ?_)
        · have := hBk _ hbk; omega
        · have := hBk _ hbk; omega
      have F3 := F2.out.onlyS b3 (fun hbk => by have := hBk _ hbk; omega)
      have hb3 := O2.out.trans (b3.mono (Q := fun b => c ≤ b ∧ b < hi) (fun q hq => by have := hBk _ hq; exact ⟨by omega, by omega⟩))
      clear hall b3 hb F2 O2 hO MK hBk e0 e1 f0 f1 u0 u1 u2
      go_wp2_with fail
      exact ⟨⟨k + 1, _, rfl, by go_num, by omega, hE.out, hN, F3, hb3⟩, by simp [intOf]; omega⟩
    · have hlt' : ¬ (k : Int) < (n : Int) := by omega
      obtain rfl : k = n := by omega
      go_wp2_with fail
      go_ret
      exact ⟨⟨r, rfl⟩, hb⟩
set_option maxRecDepth 100000 in
set_option maxHeartbeats 1600000 in
theorem w_markRib (ow : Int) (c n cap : Nat) (X H : Nat → Nat) (hi : Nat) (U : Nat → Rc) (w : World) (hs : n + totR U n ≤ 1048576) (hc : c < hi) (hR : RowRO c n X H hi U w) (hF : FreeB c (n * 3) w) :
    Calls Try.prog 11 #[.agg #[.int .i64 ow, .slice (some ⟨c, 0, none⟩) n cap], .int .i64 1] w fun e w' => ∃ r : Nat, e = .returned (.int .i64 (r : Int)) ∧ OnlyS (fun b => c ≤ b ∧ b < hi) w w' := by
  have M := hide (fun w R F => w_markRowS c n cap X H hi U w hs hc R F)
  have d0 : Below w.heap.size w (w.alloc (.cells #[.int .i64 ow, .slice (some ⟨c, 0, none⟩) n cap] 32)) := below_box (Below.refl _ _)
  have hd : OnlyS (fun b => c ≤ b ∧ b < hi) w (w.alloc (.cells #[.int .i64 ow, .slice (some ⟨c, 0, none⟩) n cap] 32)) := ⟨d0.os, d0.tape, d0.output, d0.size, fun k hk _ => d0.block k hk⟩
  clear hs hc
  go_enter Try.func11, Try.ntmps11
  go_wp2_with fail
  refine (M.out _ (hR.below d0) (hF.below d0)).mono ?_
  rintro e w1 ⟨r, rfl, b1⟩
  have b2 := hd.trans b1
  clear b1 M hd
  go_wp2_with fail
  go_ret
  exact ⟨r, rfl, b2⟩
end Go.Proofs.Ytjjdfniemlcnnab

namespace Go.Proofs.Ytjjdfniemlcnnab
open Go.RowKit

theorem Mut.onlyS13 {P : Nat → Prop} {w w' : World} {b : Nat} {vs : List Value} (h : Mut w b vs) (k : OnlyS P w w') (hn : ¬ P b) : Mut w' b vs :=
  ⟨Nat.lt_of_lt_of_le h.1 k.2.2.2.1, fun i v hv => (k.cell h.1 hn).trans (h.2.1 i v hv), fun i hi => (k.frozen h.1 hn).trans (h.2.2 i hi)⟩
/-- n offers at va; their blocks are P's. -/
def OffT (va : Option Addr) (n : Nat) (T : Nat → Oc) (P : Nat → Prop) (w : World) : Prop := RowO va n T w ∧ (n = 0 ∨ ∃ g X Y K L, va = some ⟨g, 0, none⟩ ∧ RowOA g n X Y K L T w ∧ SepO g n X Y ∧ ∀ k, BlkO g n X Y k → P k)
/-- n prefixes at ua; their block is Q's. -/
def PreT (ua : Option Addr) (n : Nat) (f0 f1 : Nat → Int) (Q : Nat → Prop) (w : World) : Prop := RowPrefix ua n f0 f1 w ∧ (n = 0 ∨ ∃ h, ua = some ⟨h, 0, none⟩ ∧ Q h ∧ OutPrefix h n n f0 f1 w)
theorem OffT.below {va : Option Addr} {n : Nat} {T : Nat → Oc} {P : Nat → Prop} {w w' : World} (h : OffT va n T P w) (b : Below w.heap.size w w') : OffT va n T P w' := by
  refine ⟨h.1.below b, ?_⟩
  rcases h.2 with h | ⟨g, X, Y, K, L, h1, h2, h3, h4⟩
  · exact .inl h
  · exact .inr ⟨g, X, Y, K, L, h1, h2.below b, h3, h4⟩
theorem OffT.onlyS {S : Nat → Prop} {va : Option Addr} {n : Nat} {T : Nat → Oc} {P : Nat → Prop} {w w' : World} (h : OffT va n T P w) (b : OnlyS S w w') (hS : ∀ k, P k → ¬ S k) : OffT va n T P w' := by
  rcases h.2 with rfl | ⟨g, X, Y, K, L, rfl, h2, h3, h4⟩
  · exact ⟨fun _ hi => absurd hi (Nat.not_lt_zero _), .inl rfl⟩
  · have q := h2.onlyS b (fun k hk => hS k (h4 k hk))
    exact ⟨q.row, .inr ⟨g, X, Y, K, L, rfl, q, h3, h4⟩⟩
theorem rowPrefix_out {h n : Nat} {f0 f1 : Nat → Int} {w : World} (o : OutPrefix h n n f0 f1 w) : RowPrefix (some ⟨h, 0, none⟩) n f0 f1 w := by
  intro i hi
  obtain ⟨⟨x0, x1, h0, h1, hk⟩, _⟩ := o.2 i hi
  obtain ⟨rfl, rfl⟩ := hk hi
  exact ⟨h, 0, rfl, o.1, by rw [Nat.zero_add]; exact h0, by rw [Nat.zero_add]; exact h1⟩
theorem OutPrefix.onlyS {S : Nat → Prop} {c n k : Nat} {f0 f1 : Nat → Int} {w w' : World} (h : OutPrefix c n k f0 f1 w) (ho : OnlyS S w w') (hn : ¬ S c) : OutPrefix c n k f0 f1 w' := by
  have hc := fun o => ho.cell (o := o) h.1 hn
  have hf := fun o => ho.frozen (o := o) h.1 hn
  refine ⟨Nat.lt_of_lt_of_le h.1 ho.2.2.2.1, fun i hi => ?_⟩
  obtain ⟨⟨x0, x1, h0, h1, hk⟩, g0, g1⟩ := h.2 i hi
  exact ⟨⟨x0, x1, (hc _).trans h0, (hc _).trans h1, hk⟩, (hf _).trans g0, (hf _).trans g1⟩
theorem PreT.below {ua : Option Addr} {n : Nat} {f0 f1 : Nat → Int} {Q : Nat → Prop} {w w' : World} (h : PreT ua n f0 f1 Q w) (b : Below w.heap.size w w') : PreT ua n f0 f1 Q w' := by
  rcases h.2 with rfl | ⟨g, rfl, h2, h3⟩
  · exact ⟨fun _ hi => absurd hi (Nat.not_lt_zero _), .inl rfl⟩
  · have q := h3.below b
    exact ⟨rowPrefix_out q, .inr ⟨g, rfl, h2, q⟩⟩
theorem PreT.onlyS {S : Nat → Prop} {ua : Option Addr} {n : Nat} {f0 f1 : Nat → Int} {Q : Nat → Prop} {w w' : World} (h : PreT ua n f0 f1 Q w) (b : OnlyS S w w') (hS : ∀ k, Q k → ¬ S k) : PreT ua n f0 f1 Q w' := by
  rcases h.2 with rfl | ⟨g, rfl, h2, h3⟩
  · exact ⟨fun _ hi => absurd hi (Nat.not_lt_zero _), .inl rfl⟩
  · have q := h3.onlyS b (hS g h2)
    exact ⟨rowPrefix_out q, .inr ⟨g, rfl, h2, q⟩⟩
/-- Two lists of one's own, in these words. -/
theorem OPs.ans {base : Nat} {v u : Value} {M : List Oe} {R : List Pf} {D : List Oc} {w : World} (h : OPs base v M u R w) (hM : M.map (·.t) = D) : ∃ va vc ua uc P Q, v = .slice va D.length vc ∧ u = .slice ua R.length uc ∧ OffT va D.length (TL D) P w ∧ PreT ua R.length (fun i => (pAt R i).1) (fun i => (pAt R i).2) Q w ∧ (∀ k, P k → base ≤ k ∧ ¬ Q k) ∧ (∀ k, Q k → base ≤ k) := by
  subst hM
  obtain ⟨h1, h2, h3⟩ := h
  obtain ⟨ua, uc, rfl, hRP, hu⟩ := ownP_row h2
  obtain ⟨va, vc, rfl, hRO, hv⟩ := h1.shape
  have hP : PreT ua R.length (fun i => (pAt R i).1) (fun i => (pAt R i).2) (fun k => (Value.slice ua R.length uc).ownBlock = some k) w := by
    refine ⟨hRP.row, ?_⟩
    rcases hu with ⟨_, _, rfl⟩ | ⟨g, rfl, hg1, hg2, _⟩
    · exact .inl rfl
    · exact .inr ⟨g, rfl, rfl, ownP_out h2 hg2⟩
  have hQ : ∀ k, (Value.slice ua R.length uc).ownBlock = some k → base ≤ k := fun k hk => (ownP_blk h2 hk).1
  rcases hv with rfl | ⟨g, rfl, hg, hRA, hSp, hB⟩
  · exact ⟨va, vc, ua, uc, fun _ => False, _, rfl, rfl, ⟨hRO, .inl rfl⟩, hP, fun k hk => absurd hk id, hQ⟩
  · have hl : (M.map (·.t)).length = M.length := by simp
    refine ⟨_, vc, ua, uc, BlkO g M.length (fun i => bxO (uAt M i)) (fun i => byO (uAt M i)), _, by rw [hl], rfl, by rw [hl]; exact ⟨hRO, .inr ⟨g, _, _, _, _, rfl, hRA, hSp, fun k hk => hk⟩⟩, hP, fun k hk => ⟨hB k hk, fun hq => ?_⟩, hQ⟩
    obtain ⟨q1, q2⟩ := h3 k hq
    rcases hk with rfl | ⟨i, hi, rfl | rfl⟩
    · exact q1 rfl
    · exact (q2 _ (uAt_mem hi)).1 rfl
    · exact (q2 _ (uAt_mem hi)).2 rfl
theorem w_markOffT (va : Option Addr) (vc n : Nat) (T : Nat → Oc) (P : Nat → Prop) (w : World) (hn : n ≤ 1048576) (ht : totO T n ≤ 1048576) (h : OffT va n T P w) :
    Calls Try.prog 12 #[.slice va n vc, .int .i64 1] w fun e w' => e = .returned (.int .i64 (kmO T n : Int)) ∧ OffT va n (halfO T n) P w' ∧ OnlyS P w w' := by
  rcases h.2 with rfl | ⟨g, X, Y, K, L, rfl, h2, h3, h4⟩
  · refine (w_markO0 va vc w).mono ?_
    rintro e w' ⟨rfl, rfl⟩
    exact ⟨rfl, ⟨fun _ hi => absurd hi (Nat.not_lt_zero _), .inl rfl⟩, OnlyS.refl _ _⟩
  · refine (w_markOfferS g n vc X Y K L T w hn ht h3 h2).mono ?_
    rintro e w' ⟨rfl, hR', hO⟩
    exact ⟨rfl, ⟨hR'.row, .inr ⟨g, X, Y, K, L, rfl, hR', h3, h4⟩⟩, hO.mono h4⟩
theorem w_markPreT (ua : Option Addr) (uc n : Nat) (f0 f1 : Nat → Int) (Q : Nat → Prop) (k0 : Int) (w : World) (hn : n ≤ 1048576) (h0 : 0 ≤ k0) (h1 : k0 ≤ 1000000000000) (h : PreT ua n f0 f1 Q w) :
    Calls Try.prog 13 #[.slice ua n uc, .int .i64 k0] w fun e w' => e = .returned (.int .i64 (k0 + 2 * (n : Int))) ∧ PreT ua n (fun i => k0 + 2 * (i : Int) + 0) (fun i => k0 + 2 * (i : Int) + 1) Q w' ∧ OnlyS Q w w' := by
  rcases h.2 with rfl | ⟨g, rfl, h2, h3⟩
  · refine (w_markPrefixS_nil ua uc k0 w).mono ?_
    rintro e w' ⟨rfl, rfl⟩
    exact ⟨by simp, ⟨fun _ hi => absurd hi (Nat.not_lt_zero _), .inl rfl⟩, OnlyS.refl _ _⟩
  · refine (w_markPrefixS g n uc f0 f1 k0 w (by omega) h0 h1 h3).mono ?_
    rintro e w' ⟨rfl, ho, hO⟩
    exact ⟨rfl, ⟨rowPrefix_out hO, .inr ⟨g, rfl, h2, hO⟩⟩, OnlyS.of_only ho h2⟩
theorem totO_congr {T V : Nat → Oc} : ∀ {n : Nat}, (∀ i, i < n → T i = V i) → totO T n = totO V n := by
  intro n
  induction n with
  | zero => intro _; rfl
  | succ n ih =>
    intro h
    simp only [totO]
    rw [ih (fun i hi => h i (by omega)), h n (by omega)]
theorem totO_mem {T : Nat → Oc} {n i : Nat} (h : i < n) : (T i).tot ≤ totO T n := by
  have h1 := totO_mono T (show i + 1 ≤ n by omega)
  have h2 : totO T (i + 1) = totO T i + (T i).tot := rfl
  omega
theorem tot_app (L : List Oc) (t : Oc) : totO (TL (L ++ [t])) (L ++ [t]).length = totO (TL L) L.length + t.tot := by
  rw [List.length_append]
  show totO (TL (L ++ [t])) L.length + (TL (L ++ [t]) L.length).tot = _
  have e1 : totO (TL (L ++ [t])) L.length = totO (TL L) L.length := totO_congr (fun i hi => by
    rw [TL_eq (by simp; omega), TL_eq hi]
    simp [List.getElem_append_left hi])
  have e2 : TL (L ++ [t]) L.length = t := by
    rw [TL_eq (by simp)]
    simp
  rw [e1, e2]
theorem bf_tot (n : Nat) (T : Nat → Oc) (x : Int) : (bfT n T x).tot ≤ totO T n := by
  cases hb : bfB n T x with
  | false => rw [bfT_no hb]; exact Nat.zero_le _
  | true =>
    have hmem : bfT n T x ∈ lsO n T := by
      rw [bfT_yes hb]
      have hlen : 0 < (flO n T x).length := by simpa [bfB] using hb
      have hp := pkO_le (TL (flO n T x)) ((flO n T x).length - 1)
      rw [TL_eq (by omega)]
      exact (List.mem_filter.1 (List.getElem_mem _)).1
    obtain ⟨k, hk, e⟩ := List.mem_map.1 hmem
    rw [← e]
    exact totO_mem (List.mem_range.1 hk)
theorem br_tot (ow : Int) (U : Nat → Rc) : ∀ n, totO (TL (brO ow n U)) (brO ow n U).length ≤ totR U n := by
  intro n
  induction n with
  | zero => exact Nat.le_refl _
  | succ n ih =>
    have h2 : totR U (n + 1) = totR U n + (U n).tot := rfl
    have h3 : (U n).tot = (U n).n + totO (U n).T (U n).n := rfl
    cases hb : bfB (U n).n (U n).T ow with
    | true =>
      rw [(br_yes hb).1, tot_app]
      have := bf_tot (U n).n (U n).T ow
      omega
    | false =>
      rw [(br_no hb).1]
      omega
theorem rr_tot (ow : Int) (n : Nat) (U : Nat → Rc) : totO (TL (rrO ow n U)) (rrO ow n U).length ≤ totR U n := by
  unfold rrO
  split
  · exact br_tot ow U n
  · exact Nat.zero_le _
theorem rr_len (ow : Int) (n : Nat) (U : Nat → Rc) : (rrO ow n U).length ≤ n ∧ (rrP ow n U).length ≤ n := by
  obtain ⟨h1, h2, _⟩ := br_len ow n U
  unfold rrO rrP
  split
  · exact ⟨h1, h2⟩
  · exact ⟨Nat.zero_le _, Nat.zero_le _⟩
end Go.Proofs.Ytjjdfniemlcnnab
