/- A list of routes as an answer: compared, marked, looked at again. -/
import Derived.Test.YtjjdfniemlcnnaaRib13
import Derived.Test.YtjjdfniemlcnnaaAll10
/- Rows and ribs that are written into. -/
namespace Go.Proofs.Ytjjdfniemlcnnaa
open Go.RowKit

set_option maxRecDepth 100000 in
set_option maxHeartbeats 3200000 in
theorem w_markRowS (c n cap : Nat) (X H : Nat → Nat) (hi : Nat) (U : Nat → Rc) (w : World) (hs : n + totR U n ≤ 1048576) (hc : c < hi) (hR : RowRO c n X H hi U w) (hF : FreeB c (n * 3) w) :
    Calls Try.prog 30 #[.slice (some ⟨c, 0, none⟩) n cap, .int .i64 1] w fun e w' => ∃ r : Nat, e = .returned (.int .i64 (r : Int)) ∧ OnlyS (fun b => c ≤ b ∧ b < hi) w w' := by
  have hl : LowR n U := lowR_of (by omega)
  go_enter Try.func30, Try.ntmps30
  go_wp2_with fail
  go_loopw [1, 5] (fun x y wr => ∃ (k r : Nat), x = .int .i64 (r : Int) ∧ y = .int .i64 k ∧ k ≤ n ∧ r ≤ 1 + 2 * k + 6 * totR U k ∧ Hid (∀ i, k ≤ i → i < n → OneR c X H hi U wr i) ∧ FreeB c (n * 3) wr ∧ OnlyS (fun b => c ≤ b ∧ b < hi) w wr) (fun _ y _ => n - (intOf y).toNat)
  case atStart => exact ⟨0, 1, rfl, rfl, Nat.zero_le _, by simp, fun i _ hi => hR.2 i hi, hF, OnlyS.refl _ _⟩
  case round =>
    clear hF hR
    obtain ⟨k, r, rfl, rfl, hk, hr, hall, FC, hb⟩ := hrel
    by_cases hlt : k < n
    · have hlt' : (k : Int) < (n : Int) := by omega
      obtain ⟨g1, g2, g3, g4, g5, u0, u1, u2, G, Y, Z, o1⟩ := hall.out k (Nat.le_refl _) hlt
      have hmo := totR_mono U (show k + 1 ≤ n by omega)
      have hsu : totR U (k + 1) = totR U k + (U k).tot := rfl
      have htt : (U k).tot = (U k).n + totO (U k).T (U k).n := rfl
      obtain ⟨l1, l2⟩ := hl k hlt
      obtain ⟨hRA, hSp, hBk⟩ := o1.own G
      have MK := hide (fun w R => w_markOfferSq (r + 1 + 1) (X k) (U k).n (U k).n Y Z (fun i => ((U k).T i).n0) (fun i => ((U k).T i).n1) (U k).T w (by omega) l1 l2 hSp R)
      have hO := hide hRA
      have hE : Hid (kmQ (r + 1 + 1) (U k).T (U k).n ≤ 1 + 2 * (k + 1) + 6 * totR U (k + 1)) := by show _ ≤ _; unfold kmQ; omega
      have hpush : Hid (((r + 1 + 1 : Nat) : Int) = (r : Int) + 1 + 1) := by rw [Hid]; omega
      obtain ⟨⟨p0, e0⟩, f0⟩ := FC.2 (k * 3) (by omega)
      obtain ⟨⟨p1, e1⟩, f1⟩ := FC.2 (k * 3 + 1) (by omega)
      rw [hpush.out] at MK
      have F2 := hide ((FC.set (k * 3) (.int .i64 (r : Int))).set (k * 3 + 1) (.int .i64 ((r : Int) + 1)))
      have O2 := hide ((hb.set (c := c) ⟨Nat.le_refl _, hc⟩ (k * 3) (.int .i64 (r : Int))).set (c := c) ⟨Nat.le_refl _, hc⟩ (k * 3 + 1) (.int .i64 ((r : Int) + 1)))
      have hr30 : r ≤ 10000000 := by omega
      clear l1 l2 hsu htt hmo G o1 hSp hRA FC
      generalize kmQ (r + 1 + 1) (U k).T (U k).n = km at *
      go_wp2_with fail
      refine (MK.out _ ?_).mono ?_
      · intro i hi
        obtain ⟨M, o1, o2⟩ := hO.out i hi
        have bx := hBk (Y i) (Or.inr ⟨i, hi, Or.inl rfl⟩)
        have byy := hBk (Z i) (Or.inr ⟨i, hi, Or.inr rfl⟩)
        exact ⟨(M.onlyS ((OnlyS.refl (fun b => b = c) wr).set rfl (k * 3) (.int .i64 (r : Int))) (by omega)).onlyS ((OnlyS.refl (fun b => b = c) _).set rfl _ _) (by omega), (o1.other (by omega) _ _).other (by omega) _ _, (o2.other (by omega) _ _).other (by omega) _ _⟩
      rintro e w3 ⟨rfl, _, b3⟩
      have hN : Hid (∀ i, k + 1 ≤ i → i < n → OneR c X H hi U w3 i) := by
        intro i h1 h2
        have f0 := ((hall.out i (by omega) h2).set (q := k * 3) (by omega) (.int .i64 (r : Int))).set (q := k * 3 + 1) (by omega) (.int .i64 ((r : Int) + 1))
        have f7 := f0.2.2.2.1 k (by omega)
        have f8 := f0.1
        refine f0.onlyS b3 (fun hbk => ?_) (fun q h1 h2 hbk => ?_)
        · have := hBk _ hbk; omega
        · have := hBk _ hbk; omega
      have F3 := F2.out.onlyS b3 (fun hbk => by have := hBk _ hbk; omega)
      have hb3 := O2.out.trans (b3.mono (Q := fun b => c ≤ b ∧ b < hi) (fun q hq => by have := hBk _ hq; exact ⟨by omega, by omega⟩))
      clear hall b3 hb F2 O2 hO MK hBk e0 e1 f0 f1 u0 u1 u2
      go_wp2_with fail
      exact ⟨⟨k + 1, _, rfl, by go_num, by omega, hE.out, hN, F3, hb3⟩, by simp [intOf]; omega⟩
    · have hlt' : ¬ (k : Int) < (n : Int) := by omega
      obtain rfl : k = n := by omega
      go_wp2_with fail
      go_ret
      exact ⟨⟨r, rfl⟩, hb⟩
set_option maxRecDepth 100000 in
set_option maxHeartbeats 1600000 in
theorem w_markRib (ow : Int) (c n cap : Nat) (X H : Nat → Nat) (hi : Nat) (U : Nat → Rc) (w : World) (hs : n + totR U n ≤ 1048576) (hc : c < hi) (hR : RowRO c n X H hi U w) (hF : FreeB c (n * 3) w) :
    Calls Try.prog 10 #[.agg #[.int .i64 ow, .slice (some ⟨c, 0, none⟩) n cap], .int .i64 1] w fun e w' => ∃ r : Nat, e = .returned (.int .i64 (r : Int)) ∧ OnlyS (fun b => c ≤ b ∧ b < hi) w w' := by
  have M := hide (fun w R F => w_markRowS c n cap X H hi U w hs hc R F)
  have d0 : Below w.heap.size w (w.alloc (.cells #[.int .i64 ow, .slice (some ⟨c, 0, none⟩) n cap] 24)) := below_box (Below.refl _ _)
  have hd : OnlyS (fun b => c ≤ b ∧ b < hi) w (w.alloc (.cells #[.int .i64 ow, .slice (some ⟨c, 0, none⟩) n cap] 24)) := ⟨d0.os, d0.tape, d0.output, d0.size, fun k hk _ => d0.block k hk⟩
  clear hs hc
  go_enter Try.func10, Try.ntmps10
  go_wp2_with fail
  refine (M.out _ (hR.below d0) (hF.below d0)).mono ?_
  rintro e w1 ⟨r, rfl, b1⟩
  have b2 := hd.trans b1
  clear b1 M hd
  go_wp2_with fail
  go_ret
  exact ⟨r, rfl, b2⟩
end Go.Proofs.Ytjjdfniemlcnnaa

namespace Go.Proofs.Ytjjdfniemlcnnaa
open Go.RowKit

/-- n routes at va; their blocks are P's. -/
def RouT (va : Option Addr) (n : Nat) (T : Nat → Ro) (P : Nat → Prop) (w : World) : Prop := RowG va n T w ∧ (n = 0 ∨ ∃ g X Y K L, va = some ⟨g, 0, none⟩ ∧ RowGA g n X Y K L T w ∧ SepO g n X Y ∧ ∀ k, BlkO g n X Y k → P k)
theorem RouT.below {va : Option Addr} {n : Nat} {T : Nat → Ro} {P : Nat → Prop} {w w' : World} (h : RouT va n T P w) (b : Below w.heap.size w w') : RouT va n T P w' := by
  refine ⟨h.1.below b, ?_⟩
  rcases h.2 with h | ⟨g, X, Y, K, L, h1, h2, h3, h4⟩
  · exact .inl h
  · exact .inr ⟨g, X, Y, K, L, h1, h2.below b, h3, h4⟩
theorem RouT.onlyS {S : Nat → Prop} {va : Option Addr} {n : Nat} {T : Nat → Ro} {P : Nat → Prop} {w w' : World} (h : RouT va n T P w) (b : OnlyS S w w') (hS : ∀ k, P k → ¬ S k) : RouT va n T P w' := by
  rcases h.2 with rfl | ⟨g, X, Y, K, L, rfl, h2, h3, h4⟩
  · exact ⟨fun _ hi => absurd hi (Nat.not_lt_zero _), .inl rfl⟩
  · have q := h2.onlyS b (fun k hk => hS k (h4 k hk))
    exact ⟨q.row, .inr ⟨g, X, Y, K, L, rfl, q, h3, h4⟩⟩
theorem LsG.ans {base : Nat} {v : Value} {M : List Rge} {D : List Ro} {w : World} (h : LsG base v M w) (hM : M.map (·.t) = D) : ∃ va vc P, v = .slice va D.length vc ∧ RouT va D.length (TG D) P w ∧ ∀ k, P k → base ≤ k := by
  subst hM
  obtain ⟨va, vc, rfl, hRO, hv⟩ := h.shape
  have hl : (M.map (·.t)).length = M.length := by simp
  rcases hv with rfl | ⟨g, rfl, hg, hRA, hSp, hB⟩
  · exact ⟨va, vc, fun _ => False, rfl, ⟨hRO, .inl rfl⟩, fun k hk => absurd hk id⟩
  · exact ⟨_, vc, BlkO g M.length (fun i => bxG (hAt M i)) (fun i => byG (hAt M i)), by rw [hl], by rw [hl]; exact ⟨hRO, .inr ⟨g, _, _, _, _, rfl, hRA, hSp, fun k hk => hk⟩⟩, hB⟩
theorem Mut.onlyS13h {P : Nat → Prop} {w w' : World} {b : Nat} {vs : List Value} (h : Mut w b vs) (k : OnlyS P w w') (hn : ¬ P b) : Mut w' b vs :=
  ⟨Nat.lt_of_lt_of_le h.1 k.2.2.2.1, fun i v hv => (k.cell h.1 hn).trans (h.2.1 i v hv), fun i hi => (k.frozen h.1 hn).trans (h.2.2 i hi)⟩
theorem w_markRouteS0 (a : Option Addr) (cap : Nat) (w : World) :
    Calls Try.prog 19 #[.slice a 0 cap, .int .i64 1] w fun e w' => e = .returned (.int .i64 1) ∧ w' = w := by
  go_enter Try.func19, Try.ntmps19
  go_wp2_with fail
  go_loopw [1, 5] (fun z y wr => z = .int .i64 1 ∧ y = .int .i64 0 ∧ wr = w) (fun _ _ _ => 0)
  case atStart => exact ⟨rfl, rfl, rfl⟩
  case round =>
    obtain ⟨rfl, rfl, rfl⟩ := hrel
    go_wp2_with fail
    go_ret
    exact ⟨rfl, rfl⟩
theorem w_markRouT (va : Option Addr) (vc n : Nat) (T : Nat → Ro) (P : Nat → Prop) (w : World) (hn : n ≤ 1048576) (ht : totG T n ≤ 1048576) (h : RouT va n T P w) :
    Calls Try.prog 19 #[.slice va n vc, .int .i64 1] w fun e w' => e = .returned (.int .i64 (kmG T n : Int)) ∧ RouT va n (halfG T n) P w' ∧ OnlyS P w w' := by
  rcases h.2 with rfl | ⟨g, X, Y, K, L, rfl, h2, h3, h4⟩
  · refine (w_markRouteS0 va vc w).mono ?_
    rintro e w' ⟨rfl, rfl⟩
    exact ⟨rfl, ⟨fun _ hi => absurd hi (Nat.not_lt_zero _), .inl rfl⟩, OnlyS.refl _ _⟩
  · refine (w_markRouteS g n vc X Y K L T w hn ht h3 h2).mono ?_
    rintro e w' ⟨rfl, hR', hO⟩
    exact ⟨rfl, ⟨hR'.row, .inr ⟨g, X, Y, K, L, rfl, hR', h3, h4⟩⟩, hO.mono h4⟩
theorem totG_congr {T V : Nat → Ro} : ∀ {n : Nat}, (∀ i, i < n → T i = V i) → totG T n = totG V n := by
  intro n
  induction n with
  | zero => intro _; rfl
  | succ n ih =>
    intro h
    simp only [totG]
    rw [ih (fun i hi => h i (by omega)), h n (by omega)]
theorem totG_app (L : List Ro) (t : Ro) : totG (TG (L ++ [t])) (L ++ [t]).length = totG (TG L) L.length + t.tot := by
  rw [List.length_append]
  show totG (TG (L ++ [t])) L.length + (TG (L ++ [t]) L.length).tot = _
  have e1 : totG (TG (L ++ [t])) L.length = totG (TG L) L.length := totG_congr (fun i hi => by
    rw [TG_eq (by simp; omega), TG_eq hi]
    simp [List.getElem_append_left hi])
  have e2 : TG (L ++ [t]) L.length = t := by
    rw [TG_eq (by simp)]
    simp
  rw [e1, e2]
theorem totO_memH {T : Nat → Oc} {n i : Nat} (h : i < n) : (T i).tot ≤ totO T n := by
  have h1 := totO_mono T (show i + 1 ≤ n by omega)
  have h2 : totO T (i + 1) = totO T i + (T i).tot := rfl
  omega
theorem fo_tot (n : Nat) (T : Nat → Oc) (x : Int) : (foT n T x).tot ≤ totO T n := by
  unfold foT
  cases e : (lsO n T).find? (fun t => t.pe == x) with
  | none => exact Nat.zero_le _
  | some q =>
    have hm := List.mem_of_find?_eq_some e
    obtain ⟨k, hk, rfl⟩ := List.mem_map.1 hm
    exact totO_memH (List.mem_range.1 hk)
theorem hf_tot (x : Int) (U : Nat → Rc) : ∀ n, totG (TG (hfL x n U)) (hfL x n U).length ≤ totR U n := by
  intro n
  induction n with
  | zero => exact Nat.le_refl _
  | succ n ih =>
    have h2 : totR U (n + 1) = totR U n + (U n).tot := rfl
    have h3 : (U n).tot = (U n).n + totO (U n).T (U n).n := rfl
    cases hb : foB (U n).n (U n).T x with
    | true =>
      rw [hf_yes hb, totG_app]
      have h4 := fo_tot (U n).n (U n).T x
      have h5 : (rtOf (U n).ad (U n).ln (foT (U n).n (U n).T x)).tot = (foT (U n).n (U n).T x).tot := rfl
      omega
    | false =>
      rw [hf_no hb]
      omega
theorem he_tot (ow : Int) (n : Nat) (U : Nat → Rc) (x : Int) : totG (TG (heL ow n U x)) (heL ow n U x).length ≤ totR U n := by
  unfold heL
  split
  · exact hf_tot x U n
  · exact Nat.zero_le _
theorem he_len (ow : Int) (n : Nat) (U : Nat → Rc) (x : Int) : (heL ow n U x).length ≤ n := by
  unfold heL
  split
  · exact hf_len x n U
  · exact Nat.zero_le _
end Go.Proofs.Ytjjdfniemlcnnaa
