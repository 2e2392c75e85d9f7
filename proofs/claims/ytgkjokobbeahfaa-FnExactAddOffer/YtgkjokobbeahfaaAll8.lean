/- For every list of offers and every offer FnExactAddOffer answers true: the program's AddOffer answers as the specification's, writes into nothing that it was handed, and its answer owns its memory. No conditions. -/
import Derived.Test.YtgkjokobbeahfaaAns8
import Derived.Test.YtgkjokobbeahfaaFlatAttrs2
import Derived.Test.YtgkjokobbeahfaaAdd8
import Derived.Test.YtgkjokobbeahfaaS8t
import Derived.Test.YtgkjokobbeahfaaSI8
import Derived.Test.YtgkjokobbeahfaaMut4
import Derived.Test.YtgkjokobbeahfaaI8v
import Derived.Test.YtgkjokobbeahfaaLawO
import Derived.Deep.RegionHeld3
import Derived.Test.YtgkjokobbeahfaaKit
import Derived.ProofKit
import Derived.Deep.Slices
import Derived.Test.YtgkjokobbeahfaaFlatInt
import Derived.Lib.SmallJoins
import Derived.Test.YtgkjokobbeahfaaW0
import Derived.Test.YtgkjokobbeahfaaOff8
import Derived.OpenShut
import Derived.ShutString
/- For the law on AddOffer. -/
namespace Go.Proofs.Ytgkjokobbeahfaa
open Go.RowKit

/-- The size of a list of offers. -/
theorem tot_sum (L : List Oc) : totO (TL L) L.length = (L.map Oc.tot).sum := by
  have : ∀ k, k ≤ L.length → totO (TL L) k = ((L.take k).map Oc.tot).sum := by
    intro k
    induction k with
    | zero => intro _; rfl
    | succ k ih =>
      intro hk
      have e : totO (TL L) (k + 1) = totO (TL L) k + (TL L k).tot := rfl
      rw [e, ih (by omega), TL_eq (show k < L.length by omega), List.take_add_one, List.getElem?_eq_getElem (show k < L.length by omega)]
      simp only [Option.toList_some, List.map_append, List.map_cons, List.map_nil, List.sum_append, List.sum_cons, List.sum_nil, Nat.add_zero]
  rw [this L.length (Nat.le_refl _), List.take_length]
theorem tot_sub8 {L M : List Oc} (h : M.Sublist L) : totO (TL M) M.length ≤ totO (TL L) L.length := by
  rw [tot_sum, tot_sum]
  induction h with
  | slnil => exact Nat.le_refl _
  | cons a _ ih => simp only [List.map_cons, List.sum_cons]; omega
  | cons_cons a _ ih => simp only [List.map_cons, List.sum_cons]; omega
theorem tot_ls8 (n : Nat) (T : Nat → Oc) : totO (TL (lsO n T)) (lsO n T).length = totO T n := by
  rw [lsO_len]
  have : ∀ k, k ≤ n → totO (TL (lsO n T)) k = totO T k := by
    intro k
    induction k with
    | zero => intro _; rfl
    | succ k ih =>
      intro hk
      have e1 : totO (TL (lsO n T)) (k + 1) = totO (TL (lsO n T)) k + (TL (lsO n T) k).tot := rfl
      have e2 : totO T (k + 1) = totO T k + (T k).tot := rfl
      rw [e1, e2, ih (by omega), lsO_at T (by omega)]
  exact this n (Nat.le_refl _)
theorem adR_sub (D : List Oc) (x : Int) : (adR D x).Sublist D := by
  unfold adR
  split
  · exact List.Sublist.refl _
  · split
    · exact List.sublist_cons_self _ _
    · exact List.Sublist.refl _
theorem adS_perm (D : List Oc) (o : Oc) : ∃ R : List Oc, R.Sublist D ∧ (adS D o).Perm (o :: R) := by
  refine ⟨D.takeWhile (fun t => decide (t.pe < o.pe)) ++ adR (D.dropWhile (fun t => decide (t.pe < o.pe))) o.pe, ?_, List.perm_middle⟩
  have h := (List.Sublist.refl (D.takeWhile (fun t => decide (t.pe < o.pe)))).append (adR_sub (D.dropWhile (fun t => decide (t.pe < o.pe))) o.pe)
  rwa [List.takeWhile_append_dropWhile] at h
theorem adL_len (D : List Oc) (o : Oc) : (adL D o).length ≤ 7 := by
  unfold adL
  split
  · next h =>
    have h1 : osB D.length (TL D) = true := by
      unfold adK at h
      cases e : osB D.length (TL D) with
      | true => rfl
      | false => rw [e] at h; simp at h
    have h2 := os_six h1
    obtain ⟨R, h3, h4⟩ := adS_perm D o
    have h5 := h3.length_le
    rw [h4.length_eq, List.length_cons]
    omega
  · simp
theorem adL_tot (D : List Oc) (o : Oc) : totO (TL (adL D o)) (adL D o).length ≤ totO (TL D) D.length + o.tot := by
  unfold adL
  split
  · obtain ⟨R, h3, h4⟩ := adS_perm D o
    have h5 := tot_sub8 h3
    rw [tot_sum, (h4.map _).sum_nat, List.map_cons, List.sum_cons, ← tot_sum]
    omega
  · exact Nat.zero_le _
set_option maxRecDepth 100000 in
set_option maxHeartbeats 1600000 in
theorem w_markAttrsK (o nx md pf : Int) (x n0 c0 : Nat) (f : Nat → Int) (y n1 c1 : Nat) (g : Nat → Int) (k : Nat) (w : World) (h0 : n0 ≤ 1048576) (h1 : n1 ≤ 1048576) (hk : k ≤ 1000000000) (hn : x ≠ y) (O0 : OutInt x n0 n0 f w) (O1 : OutInt y n1 n1 g w) :
    Calls Try.prog 81 #[.agg #[.int .i64 o, .slice (some ⟨x, 0, none⟩) n0 c0, .int .i64 nx, .int .i64 md, .int .i64 pf, .slice (some ⟨y, 0, none⟩) n1 c1], .int .i64 k] w fun e w' => e = .returned (.int .i64 ((k : Int) + (n0 : Int) + (n1 : Int))) ∧ ∃ u, Only x w u ∧ Only y u w' := by
  have s0 := hide (fun w O => w_markIntS x n0 c0 f (k : Int) w (by omega) (by omega) (by omega) O)
  have s1 := hide (fun w O => w_markIntS y n1 c1 g ((k : Int) + (n0 : Int)) w (by omega) (by omega) (by omega) O)
  have b0 : (k : Int) + (n0 : Int) ≤ 1001048576 := by omega
  have M := Mut.new w #[.int .i64 o, .slice (some ⟨x, 0, none⟩) n0 c0, .int .i64 nx, .int .i64 md, .int .i64 pf, .slice (some ⟨y, 0, none⟩) n1 c1] 37
  have d : Only x w (w.alloc (.cells #[.int .i64 o, .slice (some ⟨x, 0, none⟩) n0 c0, .int .i64 nx, .int .i64 md, .int .i64 pf, .slice (some ⟨y, 0, none⟩) n1 c1] 37)) := (Only.refl x w).alloc _
  have hx := O0.1
  have hy := O1.1
  have O0 := O0.below (below_box (Below.refl (w.alloc (.cells #[.int .i64 o, .slice (some ⟨x, 0, none⟩) n0 c0, .int .i64 nx, .int .i64 md, .int .i64 pf, .slice (some ⟨y, 0, none⟩) n1 c1] 37)).heap.size (w.alloc (.cells #[.int .i64 o, .slice (some ⟨x, 0, none⟩) n0 c0, .int .i64 nx, .int .i64 md, .int .i64 pf, .slice (some ⟨y, 0, none⟩) n1 c1] 37))))
  have O1 := O1.below (below_box (Below.refl (w.alloc (.cells #[.int .i64 o, .slice (some ⟨x, 0, none⟩) n0 c0, .int .i64 nx, .int .i64 md, .int .i64 pf, .slice (some ⟨y, 0, none⟩) n1 c1] 37)).heap.size (w.alloc (.cells #[.int .i64 o, .slice (some ⟨x, 0, none⟩) n0 c0, .int .i64 nx, .int .i64 md, .int .i64 pf, .slice (some ⟨y, 0, none⟩) n1 c1] 37))))
  clear h0 h1 hk
  go_enter Try.func81, Try.ntmps81
  go_wp2_with fail
  generalize w.alloc (.cells #[.int .i64 o, .slice (some ⟨x, 0, none⟩) n0 c0, .int .i64 nx, .int .i64 md, .int .i64 pf, .slice (some ⟨y, 0, none⟩) n1 c1] 37) = w1 at *
  refine (s0.out _ O0).mono ?_
  rintro e w2 ⟨rfl, o2, P0⟩
  have O1 := O1.only o2 (by omega)
  have M := M.only o2 (by omega)
  have u5 := M.2.1 5 _ rfl
  go_wp2_with fail
  refine (s1.out _ O1).mono ?_
  rintro e w3 ⟨rfl, o3, P1⟩
  go_wp2_with fail
  go_ret
  exact ⟨rfl, w2, d.trans o2, o3⟩
set_option maxRecDepth 100000 in
set_option maxHeartbeats 1600000 in
theorem w_markOffer (pe o nx md pf : Int) (x n0 c0 : Nat) (f : Nat → Int) (y n1 c1 : Nat) (g : Nat → Int) (k : Nat) (w : World) (h0 : n0 ≤ 1048576) (h1 : n1 ≤ 1048576) (hk : k ≤ 1000000000) (hn : x ≠ y) (O0 : OutInt x n0 n0 f w) (O1 : OutInt y n1 n1 g w) :
    Calls Try.prog 34 #[.agg #[.int .i64 pe, .int .i64 o, .slice (some ⟨x, 0, none⟩) n0 c0, .int .i64 nx, .int .i64 md, .int .i64 pf, .slice (some ⟨y, 0, none⟩) n1 c1], .int .i64 k] w fun e w' => e = .returned (.int .i64 ((k : Int) + (n0 : Int) + (n1 : Int))) ∧ ∃ u, Only x w u ∧ Only y u w' := by
  have s0 := hide (fun w O P => w_markAttrsK o nx md pf x n0 c0 f y n1 c1 g k w h0 h1 hk hn O P)
  have d : Only x w (w.alloc (.cells #[.int .i64 pe, .int .i64 o, .slice (some ⟨x, 0, none⟩) n0 c0, .int .i64 nx, .int .i64 md, .int .i64 pf, .slice (some ⟨y, 0, none⟩) n1 c1] 39)) := (Only.refl x w).alloc _
  have O0 := O0.below (below_box (Below.refl (w.alloc (.cells #[.int .i64 pe, .int .i64 o, .slice (some ⟨x, 0, none⟩) n0 c0, .int .i64 nx, .int .i64 md, .int .i64 pf, .slice (some ⟨y, 0, none⟩) n1 c1] 39)).heap.size (w.alloc (.cells #[.int .i64 pe, .int .i64 o, .slice (some ⟨x, 0, none⟩) n0 c0, .int .i64 nx, .int .i64 md, .int .i64 pf, .slice (some ⟨y, 0, none⟩) n1 c1] 39))))
  have O1 := O1.below (below_box (Below.refl (w.alloc (.cells #[.int .i64 pe, .int .i64 o, .slice (some ⟨x, 0, none⟩) n0 c0, .int .i64 nx, .int .i64 md, .int .i64 pf, .slice (some ⟨y, 0, none⟩) n1 c1] 39)).heap.size (w.alloc (.cells #[.int .i64 pe, .int .i64 o, .slice (some ⟨x, 0, none⟩) n0 c0, .int .i64 nx, .int .i64 md, .int .i64 pf, .slice (some ⟨y, 0, none⟩) n1 c1] 39))))
  clear h0 h1 hk
  go_enter Try.func34, Try.ntmps34
  go_wp2_with fail
  generalize w.alloc (.cells #[.int .i64 pe, .int .i64 o, .slice (some ⟨x, 0, none⟩) n0 c0, .int .i64 nx, .int .i64 md, .int .i64 pf, .slice (some ⟨y, 0, none⟩) n1 c1] 39) = w1 at *
  refine (s0.out _ O0 O1).mono ?_
  rintro e w2 ⟨rfl, v, o2, o3⟩
  go_wp2_with fail
  go_ret
  exact ⟨rfl, v, d.trans o2, o3⟩
end Go.Proofs.Ytgkjokobbeahfaa

/- AddOffer of the specification. -/
namespace Go.Proofs.Ytgkjokobbeahfaa
open Go.RowKit

theorem os_one8 (t : Oc) : osB 1 (fun _ => t) = ofB t := by
  unfold osB
  simp [stO]
theorem rowO_one8 {w : World} {b : Nat} {t : Oc} {a0 : Option Addr} {c0 : Nat} {a1 : Option Addr} {c1 : Nat} (h : Mut w b [.int .i64 t.pe, .int .i64 t.o, .slice a0 t.n0 c0, .int .i64 t.nx, .int .i64 t.md, .int .i64 t.pf, .slice a1 t.n1 c1]) (hi : OfIn a0 a1 t w) : RowO (some ⟨b, 0, none⟩) 1 (fun _ => t) w := by
  intro i hlt
  obtain rfl : i = 0 := by omega
  exact ⟨b, 0, a0, c0, a1, c1, rfl, h.1, h.2.1 0 _ rfl, h.2.1 1 _ rfl, h.2.1 2 _ rfl, h.2.1 3 _ rfl, h.2.1 4 _ rfl, h.2.1 5 _ rfl, h.2.1 6 _ rfl, hi⟩
theorem put_eq (L : List Oe) (e : Oe) : (L.take (kO L e.t.pe)).map (·.t) ++ e.t :: (L.drop (if kO L e.t.pe < L.length ∧ (uAt L (kO L e.t.pe)).t.pe = e.t.pe then kO L e.t.pe + 1 else kO L e.t.pe)).map (·.t) = adS (L.map (·.t)) e.t := by
  unfold adS
  rw [kO_take]
  by_cases h : kO L e.t.pe < L.length
  · rw [(kO_at h).2]
    by_cases h2 : (uAt L (kO L e.t.pe)).t.pe = e.t.pe
    · rw [if_pos ⟨h, h2⟩, if_pos h2]
    · rw [if_neg (fun q => h2 q.2), if_neg h2]
  · rw [kO_end h, if_neg (fun q => h q.1)]
theorem s_put (b off c : Nat) (L : List Oe) (e : Oe) (w : World) (hl : L.length ≤ 1048576) (hc : L.length ≤ c) (hcm : c ≤ maxLen) (hU : RowU (some ⟨b, off, none⟩) L w) (hS : ∀ e, e ∈ L → SrcO w e) (hE : SrcO w e) :
    Calls Try.prog 77 #[.slice (some ⟨b, off, none⟩) L.length c, .agg #[.int .i64 e.t.pe, .int .i64 e.t.o, .slice e.a0 e.t.n0 e.c0, .int .i64 e.t.nx, .int .i64 e.t.md, .int .i64 e.t.pf, .slice e.a1 e.t.n1 e.c1]] w fun r w' => ∃ a' c', r = .returned (.slice a' (adS (L.map (·.t)) e.t).length c') ∧ RowO a' (adS (L.map (·.t)) e.t).length (TL (adS (L.map (·.t)) e.t)) w' ∧ Below w.heap.size w w' := by
  refine (s_l8Put b off c L.length (kO L e.t.pe) _ L e w rfl hl hc hcm hU hS hE (kO_le _ _) (fun i hi => kO_lt hi) (fun h => (kO_at h).1) rfl).mono ?_
  rintro r w' ⟨v, M, rfl, hM, hO, hI, hb⟩
  rw [put_eq] at hM
  obtain ⟨a', c', rfl, hR, _⟩ := ownU_row hO
  have h := hR.offers hI
  have hz : M.length = (adS (L.map (·.t)) e.t).length := by rw [← hM, List.length_map]
  rw [hM, hz] at h
  rw [hz]
  exact ⟨a', c', rfl, h, hb⟩
set_option maxRecDepth 100000 in
set_option maxHeartbeats 1600000 in
theorem s_addOffer (b off c : Nat) (L : List Oe) (e : Oe) (w : World) (hl : L.length ≤ 1048576) (hc : L.length ≤ c) (hcm : c ≤ maxLen) (hU : RowU (some ⟨b, off, none⟩) L w) (hS : ∀ e, e ∈ L → SrcO w e) (hE : SrcO w e) :
    Calls Try.prog 32 #[.slice (some ⟨b, off, none⟩) L.length c, .agg #[.int .i64 e.t.pe, .int .i64 e.t.o, .slice e.a0 e.t.n0 e.c0, .int .i64 e.t.nx, .int .i64 e.t.md, .int .i64 e.t.pf, .slice e.a1 e.t.n1 e.c1]] w fun r w' => ∃ a' c', r = .returned (.tuple #[.slice a' (adL (L.map (·.t)) e.t).length c', .bool (adK (L.map (·.t)) e.t)]) ∧ RowO a' (adL (L.map (·.t)) e.t).length (TL (adL (L.map (·.t)) e.t)) w' ∧ Below w.heap.size w w' := by
  have hlen : (L.map (·.t)).length = L.length := by simp
  have G := hide (fun w R => s_goodOffers (some ⟨b, off, none⟩) L.length c (TL (L.map (·.t))) w hl (low_src hS) R)
  have G2 := hide (fun b c w R => s_goodOffers (some ⟨b, 0, none⟩) 1 c (fun _ => e.t) w (by omega) (fun i _ => hE.2.2.2) R)
  rw [os_one8] at G2
  have P := hide (fun w hU hS hE => s_put b off c L e w hl hc hcm hU hS hE)
  have M0 := Mut.new w #[.int .i64 e.t.pe, .int .i64 e.t.o, .slice e.a0 e.t.n0 e.c0, .int .i64 e.t.nx, .int .i64 e.t.md, .int .i64 e.t.pf, .slice e.a1 e.t.n1 e.c1] 39
  have d0 : Below w.heap.size w (w.alloc (.cells #[.int .i64 e.t.pe, .int .i64 e.t.o, .slice e.a0 e.t.n0 e.c0, .int .i64 e.t.nx, .int .i64 e.t.md, .int .i64 e.t.pf, .slice e.a1 e.t.n1 e.c1] 39)) := below_box (Below.refl _ _)
  cases hg : osB (L.map (·.t)).length (TL (L.map (·.t))) with
  | false =>
    have hk := adK_no1 (o := e.t) hg
    rw [hlen] at hg
    rw [adL_no hk, hk]
    rw [hg] at G
    clear hg hk P G2
    go_enter Try.func32, Try.ntmps32
    go_wp2_with fail
    generalize w.alloc (.cells #[.int .i64 e.t.pe, .int .i64 e.t.o, .slice e.a0 e.t.n0 e.c0, .int .i64 e.t.nx, .int .i64 e.t.md, .int .i64 e.t.pf, .slice e.a1 e.t.n1 e.c1] 39) = w0 at *
    refine (G.out _ (rowO_src (hU.below d0) (fun e he => (hS e he).below d0))).mono ?_
    rintro r w1 ⟨rfl, b1⟩
    have d1 := d0.trans (b1.mono d0.size)
    replace M0 := M0.below b1
    clear b1 d0
    go_wp2_with fail
    go_ret2
    exact ⟨none, 0, rfl, fun i hi => absurd hi (Nat.not_lt_zero _), d1⟩
  | true =>
   cases hg2 : ofB e.t with
   | false =>
    have hk := adK_no2 (D := L.map (·.t)) hg2
    rw [hlen] at hg
    rw [adL_no hk, hk]
    rw [hg] at G
    rw [hg2] at G2
    clear hg hg2 hk P
    go_enter Try.func32, Try.ntmps32
    go_wp2_with fail
    generalize w.alloc (.cells #[.int .i64 e.t.pe, .int .i64 e.t.o, .slice e.a0 e.t.n0 e.c0, .int .i64 e.t.nx, .int .i64 e.t.md, .int .i64 e.t.pf, .slice e.a1 e.t.n1 e.c1] 39) = w0 at *
    refine (G.out _ (rowO_src (hU.below d0) (fun e he => (hS e he).below d0))).mono ?_
    rintro r w1 ⟨rfl, b1⟩
    have d1 := d0.trans (b1.mono d0.size)
    replace M0 := M0.below b1
    clear b1 d0
    have u0 := M0.2.1 0 _ rfl
    have u1 := M0.2.1 1 _ rfl
    have u2 := M0.2.1 2 _ rfl
    have u3 := M0.2.1 3 _ rfl
    have u4 := M0.2.1 4 _ rfl
    have u5 := M0.2.1 5 _ rfl
    have u6 := M0.2.1 6 _ rfl
    go_wp2_with fail
    have N := Mut.new w1 #[.int .i64 e.t.pe, .int .i64 e.t.o, .slice e.a0 e.t.n0 e.c0, .int .i64 e.t.nx, .int .i64 e.t.md, .int .i64 e.t.pf, .slice e.a1 e.t.n1 e.c1] 39
    have bB : Below w1.heap.size w1 (w1.alloc (.cells #[.int .i64 e.t.pe, .int .i64 e.t.o, .slice e.a0 e.t.n0 e.c0, .int .i64 e.t.nx, .int .i64 e.t.md, .int .i64 e.t.pf, .slice e.a1 e.t.n1 e.c1] 39)) := below_box (Below.refl _ _)
    have d2 := d1.trans (bB.mono d1.size)
    replace M0 := M0.below bB
    clear bB
    refine (G2.out _ _ _ (rowO_one8 N (hE.2.2.1.below d2))).mono ?_
    rintro r w2 ⟨rfl, b2⟩
    have d3 := d2.trans (b2.mono d2.size)
    replace M0 := M0.below b2
    clear b2 d2 d1 N u0 u1 u2 u3 u4 u5 u6
    go_wp2_with fail
    go_ret2
    exact ⟨none, 0, rfl, fun i hi => absurd hi (Nat.not_lt_zero _), d3⟩
   | true =>
    have hk := adK_yes hg hg2
    rw [hlen] at hg
    rw [adL_yes hk, hk]
    rw [hg] at G
    rw [hg2] at G2
    clear hg hg2 hk
    generalize adS (L.map (·.t)) e.t = D at *
    go_enter Try.func32, Try.ntmps32
    go_wp2_with fail
    generalize w.alloc (.cells #[.int .i64 e.t.pe, .int .i64 e.t.o, .slice e.a0 e.t.n0 e.c0, .int .i64 e.t.nx, .int .i64 e.t.md, .int .i64 e.t.pf, .slice e.a1 e.t.n1 e.c1] 39) = w0 at *
    refine (G.out _ (rowO_src (hU.below d0) (fun e he => (hS e he).below d0))).mono ?_
    rintro r w1 ⟨rfl, b1⟩
    have d1 := d0.trans (b1.mono d0.size)
    replace M0 := M0.below b1
    clear b1 d0
    have u0 := M0.2.1 0 _ rfl
    have u1 := M0.2.1 1 _ rfl
    have u2 := M0.2.1 2 _ rfl
    have u3 := M0.2.1 3 _ rfl
    have u4 := M0.2.1 4 _ rfl
    have u5 := M0.2.1 5 _ rfl
    have u6 := M0.2.1 6 _ rfl
    go_wp2_with fail
    have N := Mut.new w1 #[.int .i64 e.t.pe, .int .i64 e.t.o, .slice e.a0 e.t.n0 e.c0, .int .i64 e.t.nx, .int .i64 e.t.md, .int .i64 e.t.pf, .slice e.a1 e.t.n1 e.c1] 39
    have bB : Below w1.heap.size w1 (w1.alloc (.cells #[.int .i64 e.t.pe, .int .i64 e.t.o, .slice e.a0 e.t.n0 e.c0, .int .i64 e.t.nx, .int .i64 e.t.md, .int .i64 e.t.pf, .slice e.a1 e.t.n1 e.c1] 39)) := below_box (Below.refl _ _)
    have d2 := d1.trans (bB.mono d1.size)
    replace M0 := M0.below bB
    clear bB
    refine (G2.out _ _ _ (rowO_one8 N (hE.2.2.1.below d2))).mono ?_
    rintro r w2 ⟨rfl, b2⟩
    have d3 := d2.trans (b2.mono d2.size)
    replace M0 := M0.below b2
    clear b2 d2 d1 N u0 u1 u2 u3 u4 u5 u6
    have u0 := M0.2.1 0 _ rfl
    have u1 := M0.2.1 1 _ rfl
    have u2 := M0.2.1 2 _ rfl
    have u3 := M0.2.1 3 _ rfl
    have u4 := M0.2.1 4 _ rfl
    have u5 := M0.2.1 5 _ rfl
    have u6 := M0.2.1 6 _ rfl
    go_wp2_with fail
    refine (P.out _ (hU.below d3) (fun e he => (hS e he).below d3) (hE.below d3)).mono ?_
    rintro r w4 ⟨a4, c4, rfl, hRR, b4⟩
    have d4 := d3.trans (b4.mono d3.size)
    have hRR := hide hRR
    clear b4
    go_wp2_with fail
    go_ret2
    first | exact ⟨_, _, rfl, hRR.out, d4⟩ | exact ⟨_, ⟨_, rfl⟩, hRR.out, d4⟩
end Go.Proofs.Ytgkjokobbeahfaa

/- The law on AddOffer: the program answers as the specification, in memory of its own. -/
namespace Go.Proofs.Ytgkjokobbeahfaa
open Go.RowKit

theorem outRow8 {x y : Nat} {t : Oc} {w : World} (h1 : OutInt x t.n0 t.n0 t.f w) (h2 : OutInt y t.n1 t.n1 t.g w) : OfIn (some ⟨x, 0, none⟩) (some ⟨y, 0, none⟩) t w := ⟨h1.row, h2.row⟩
theorem Mut.onlyS8 {P : Nat → Prop} {w w' : World} {b : Nat} {vs : List Value} (h : Mut w b vs) (k : OnlyS P w w') (hn : ¬ P b) : Mut w' b vs :=
  ⟨Nat.lt_of_lt_of_le h.1 k.2.2.2.1, fun i v hv => (k.cell h.1 hn).trans (h.2.1 i v hv), fun i hi => (k.frozen h.1 hn).trans (h.2.2 i hi)⟩
set_option maxRecDepth 100000 in
set_option maxHeartbeats 6400000 in
theorem w_addOffer (a : Option Addr) (n c : Nat) (T : Nat → Oc) (a0 : Option Addr) (c0 : Nat) (a1 : Option Addr) (c1 : Nat) (t : Oc) (w : World) (hn : n ≤ maxLen) (hx : MaxO n T) (hR : RowO a n T w) (h0 : t.n0 ≤ maxLen) (h1 : t.n1 ≤ maxLen) (hT : OfIn a0 a1 t w) :
    Calls Try.prog 7 #[.slice a n c, .agg #[.int .i64 t.pe, .int .i64 t.o, .slice a0 t.n0 c0, .int .i64 t.nx, .int .i64 t.md, .int .i64 t.pf, .slice a1 t.n1 c1]] w fun e w' => e = .returned (.bool true) ∧ Below w.heap.size w w' := by
  have SZ := hide (fun w R => w_szOfferS a n c T 1048576 w hn hx (by omega) (by omega) R)
  have MT := Mut.new w #[.int .i64 t.pe, .int .i64 t.o, .slice a0 t.n0 c0, .int .i64 t.nx, .int .i64 t.md, .int .i64 t.pf, .slice a1 t.n1 c1] 33
  have d0 : Below w.heap.size w (w.alloc (.cells #[.int .i64 t.pe, .int .i64 t.o, .slice a0 t.n0 c0, .int .i64 t.nx, .int .i64 t.md, .int .i64 t.pf, .slice a1 t.n1 c1] 33)) := below_box (Below.refl _ _)
  have htt : t.tot = t.n0 + t.n1 := rfl
  by_cases hs : (n : Int) + (totO T n : Int) ≤ 1048576
  · rw [if_pos hs] at SZ
    have hlt : ¬ (1048576 - (n : Int) - (totO T n : Int) < 0) := by omega
    have SZ2 := hide (fun w => w_szOffer a0 c0 a1 c1 t (1048576 - (n : Int) - (totO T n : Int)) w h0 h1 (by omega) (by omega))
    by_cases hs2 : (t.tot : Int) ≤ 1048576 - (n : Int) - (totO T n : Int)
    · rw [if_pos hs2] at SZ2
      have hlt2 : ¬ (1048576 - (n : Int) - (totO T n : Int) - (t.tot : Int) < 0) := by omega
      have hn1 : n ≤ 1048576 := by omega
      have ht1 : totO T n ≤ 1048576 := by omega
      have hl : LowO n T := lowO_of (by omega)
      have q0 : t.n0 ≤ 1048576 := by omega
      have q1 : t.n1 ≤ 1048576 := by omega
      have TP := hide (fun w R => w_toOfferS a n c T w hn1 hl R)
      have TT := hide (fun w hT => w_toOffer a0 c0 a1 c1 t w q0 q1 hT)
      have ET := hide (fun a0 b0 c0 e0 a1 b1 c1 e1 w R Q => w_eqOffer a0 b0 c0 e0 a1 b1 c1 e1 t w (by omega) (by omega) R Q)
      have hsrc : ∀ (x y : Nat) (w : World), OutInt x t.n0 t.n0 t.f w → OutInt y t.n1 t.n1 t.g w → SrcO w ⟨t, some ⟨x, 0, none⟩, t.n0, some ⟨y, 0, none⟩, t.n1⟩ := fun x y w o1 o2 => ⟨⟨x, 0, rfl⟩, ⟨y, 0, rfl⟩, outRow8 o1 o2, q0, q1⟩
      have SG : Hid (∀ (c : Nat) (X Y : Nat → Nat) (hi x y : Nat) (w : World), RowOO c n X Y hi T w → OutInt x t.n0 t.n0 t.f w → OutInt y t.n1 t.n1 t.g w → Calls Try.prog 32 #[.slice (some ⟨c, 0, none⟩) n n, .agg #[.int .i64 t.pe, .int .i64 t.o, .slice (some ⟨x, 0, none⟩) t.n0 t.n0, .int .i64 t.nx, .int .i64 t.md, .int .i64 t.pf, .slice (some ⟨y, 0, none⟩) t.n1 t.n1]] w fun r w' => ∃ a' c', r = .returned (.tuple #[.slice a' (adL (lsO n T) t).length c', .bool (adK (lsO n T) t)]) ∧ RowO a' (adL (lsO n T) t).length (TL (adL (lsO n T) t)) w' ∧ Below w.heap.size w w') := by
        intro c X Y hi x y w ho o1 o2
        obtain ⟨L, h1, h2, h3, h4⟩ := rowOO_list ho hl
        have h := s_addOffer c 0 n L ⟨t, some ⟨x, 0, none⟩, t.n0, some ⟨y, 0, none⟩, t.n1⟩ w (by omega) (by omega) (by unfold maxLen; omega) h3 h4 (hsrc x y w o1 o2)
        rw [h1, h2] at h
        exact h
      have IG : Hid (∀ (c : Nat) (X Y : Nat → Nat) (hi x y : Nat) (w : World), RowOO c n X Y hi T w → OutInt x t.n0 t.n0 t.f w → OutInt y t.n1 t.n1 t.g w → Calls Try.prog 33 #[.slice (some ⟨c, 0, none⟩) n n, .agg #[.int .i64 t.pe, .int .i64 t.o, .slice (some ⟨x, 0, none⟩) t.n0 t.n0, .int .i64 t.nx, .int .i64 t.md, .int .i64 t.pf, .slice (some ⟨y, 0, none⟩) t.n1 t.n1]] w fun r w' => ∃ v, r = .returned (.tuple #[v, .bool (adK (lsO n T) t)]) ∧ AnsO w.heap.size v (adL (lsO n T) t) w' ∧ Below w.heap.size w w') := by
        intro c X Y hi x y w ho o1 o2
        obtain ⟨L, h1, h2, h3, h4⟩ := rowOO_list ho hl
        have h := i_addOffer (some ⟨c, 0, none⟩) L n ⟨t, some ⟨x, 0, none⟩, t.n0, some ⟨y, 0, none⟩, t.n1⟩ w (by omega) h3 h4 (hsrc x y w o1 o2)
        rw [h1, h2] at h
        exact h
      have hDn : (adL (lsO n T) t).length ≤ 1048576 := Nat.le_trans (adL_len _ _) (by omega)
      have hDt : totO (TL (adL (lsO n T) t)) (adL (lsO n T) t).length ≤ 1048576 := by
        have h1 := adL_tot (lsO n T) t
        rw [tot_ls8] at h1
        omega
      have E := hide (fun a a' c c' w R Q => w_eqOfferS a a' n c c' T w hn1 hl R Q)
      have hDl : LowO (adL (lsO n T) t).length (TL (adL (lsO n T) t)) := lowO_of hDt
      have ED := hide (fun a a' c c' w R Q => w_eqOfferS a a' (adL (lsO n T) t).length c c' (TL (adL (lsO n T) t)) w hDn hDl R Q)
      have MK := hide (fun c cap X Y K L w hs hR => w_markOfferS c n cap X Y K L T w hn1 ht1 hs hR)
      have MO := hide (fun x y w hn O P => w_markOffer t.pe t.o t.nx t.md t.pf x t.n0 t.n0 t.f y t.n1 t.n1 t.g (kmO T n) w q0 q1 (Nat.le_trans (kmO_le T (Nat.le_refl n) hn1 ht1) (by omega)) hn O P)
      have MA := hide (fun base ga gc w hb hA => w_markAns base ga gc (adL (lsO n T) t) w hDn hDt hb hA)
      have HA := hide (fun a cap w R => w_heldOfferS a (adL (lsO n T) t).length cap (TL (adL (lsO n T) t)) w hDn hDt R)
      generalize adK (lsO n T) t = r1 at SG IG
      generalize adL (lsO n T) t = D at *
      have k1 : (r1 != r1) = false := by simp
      have hkm : ¬ ((kmO T n : Int) + (t.n0 : Int) + (t.n1 : Int) < 0) := by omega
      have hkd : ¬ ((kmO (TL D) D.length : Int) < 0) := by omega
      have hke : ((kmO (TL D) D.length : Int) != (kmO (TL D) D.length : Int)) = false := by simp
      generalize kmO T n = kn at *
      generalize kmO (TL D) D.length = kd at *
      generalize halfO (TL D) D.length = HD at *
      generalize totO T n = q at *
      generalize t.tot = tt at *
      clear hn hx hs hs2 hn1 ht1 hl hDn hDt hDl h0 h1 htt hsrc q0 q1
      go_enter Try.func7, Try.ntmps7
      go_wp2_with fail
      generalize w.alloc (.cells #[.int .i64 t.pe, .int .i64 t.o, .slice a0 t.n0 c0, .int .i64 t.nx, .int .i64 t.md, .int .i64 t.pf, .slice a1 t.n1 c1] 33) = w1 at *
      refine (SZ.out _ (hR.below d0)).mono ?_
      rintro e w2 ⟨rfl, b2⟩
      have d2 := d0.trans (b2.mono d0.size)
      replace MT := MT.below b2
      clear b2 d0
      have u0 := MT.2.1 0 _ rfl
      have u1 := MT.2.1 1 _ rfl
      have u2 := MT.2.1 2 _ rfl
      have u3 := MT.2.1 3 _ rfl
      have u4 := MT.2.1 4 _ rfl
      have u5 := MT.2.1 5 _ rfl
      have u6 := MT.2.1 6 _ rfl
      go_wp2_with fail
      refine (SZ2.out _).mono ?_
      rintro e w3 ⟨rfl, b3⟩
      have d3 := d2.trans (b3.mono d2.size)
      replace MT := MT.below b3
      clear b3 d2
      clear u0 u1 u2 u3 u4 u5 u6
      have u0 := MT.2.1 0 _ rfl
      have u1 := MT.2.1 1 _ rfl
      have u2 := MT.2.1 2 _ rfl
      have u3 := MT.2.1 3 _ rfl
      have u4 := MT.2.1 4 _ rfl
      have u5 := MT.2.1 5 _ rfl
      have u6 := MT.2.1 6 _ rfl
      have hTz : ∀ w' : World, Below w3.heap.size w3 w' → OfIn a0 a1 t w' := fun w' b => hT.below (d3.trans (b.mono d3.size))
      have hRz : ∀ w' : World, Below w3.heap.size w3 w' → RowO a n T w' := fun w' b => hR.below (d3.trans (b.mono d3.size))
      have hS : ∀ w' : World, Below w3.heap.size w3 w' → w'.cell? ⟨w.heap.size, 0, none⟩ = some (.int .i64 t.pe) ∧ w'.cell? ⟨w.heap.size, 1, none⟩ = some (.int .i64 t.o) ∧ w'.cell? ⟨w.heap.size, 2, none⟩ = some (.slice a0 t.n0 c0) ∧ w'.cell? ⟨w.heap.size, 3, none⟩ = some (.int .i64 t.nx) ∧ w'.cell? ⟨w.heap.size, 4, none⟩ = some (.int .i64 t.md) ∧ w'.cell? ⟨w.heap.size, 5, none⟩ = some (.int .i64 t.pf) ∧ w'.cell? ⟨w.heap.size, 6, none⟩ = some (.slice a1 t.n1 c1) := fun w' b => ⟨(MT.below b).2.1 0 _ rfl, (MT.below b).2.1 1 _ rfl, (MT.below b).2.1 2 _ rfl, (MT.below b).2.1 3 _ rfl, (MT.below b).2.1 4 _ rfl, (MT.below b).2.1 5 _ rfl, (MT.below b).2.1 6 _ rfl⟩
      obtain ⟨h_a, h_b, h_c, h_d, h_e, h_f, h_g⟩ := hS w3 (Below.refl _ _)
      go_wp2_with fail
      go_region_held3 (fun w' => w'.cell? ⟨w.heap.size, 0, none⟩ = some (.int .i64 t.pe) ∧ w'.cell? ⟨w.heap.size, 1, none⟩ = some (.int .i64 t.o) ∧ w'.cell? ⟨w.heap.size, 2, none⟩ = some (.slice a0 t.n0 c0) ∧ w'.cell? ⟨w.heap.size, 3, none⟩ = some (.int .i64 t.nx) ∧ w'.cell? ⟨w.heap.size, 4, none⟩ = some (.int .i64 t.md) ∧ w'.cell? ⟨w.heap.size, 5, none⟩ = some (.int .i64 t.pf) ∧ w'.cell? ⟨w.heap.size, 6, none⟩ = some (.slice a1 t.n1 c1))
        (first | exact hS _ (Below.refl _ _) | exact hS _ (Below.refl _ _).drew | exact hS _ dS | exact hS _ dS.drew | exact hS _ dR | exact hS _ dR.drew | exact hS _ dA | exact hS _ dA.drew | go_keep)
        ((first
          | (have hq0 := dR; go_at_call 32; refine (SG.out _ _ _ _ _ _ _ (by first | exact hOA | exact hOA.below (Below.refl _ _).drew) (by first | exact O1 | exact O1.below (Below.refl _ _).drew) (by first | exact O2 | exact O2.below (Below.refl _ _).drew)).mono ?_; rintro e w6 ⟨wa, wc, rfl, RW, bS⟩; have dS : Below w3.heap.size w3 w6 := (by first | exact below_step dR bS | exact below_step dR.drew bS))
          | (have hq0 := dA; go_at_call 21; refine (TT.out _ (by first | exact hTz _ dA | exact hTz _ dA.drew)).mono ?_; rintro e w5 ⟨xs, ys, rfl, _, _, O1, O2, bR⟩; have dR : Below w3.heap.size w3 w5 := (by first | exact below_step dA bR | exact below_step dA.drew bR); have hOA := oA.below (show Below w4.heap.size w4 w5 from (by first | exact bR | exact (Below.refl _ _).drew.trans bR)))
          | (go_at_call 16; refine (TP.out _ (by first | exact hRz _ (Below.refl _ _) | exact hRz _ (Below.refl _ _).drew)).mono ?_; rintro e w4 ⟨rfl, ⟨XA, YA, oA⟩, _, bA⟩; have dA : Below w3.heap.size w3 w4 := (by first | exact bA | exact (Below.refl _ _).drew.trans bA))))
      clear hS h_a h_b h_c h_d h_e h_f h_g hTz hRz
      have d6 := d3.trans (dS.mono d3.size)
      replace MT := MT.below dS
      have hm6 : w.heap.size < w6.heap.size := MT.1
      clear dS dR dA oA hOA O1 O2 bS bR bA d3
      clear u0 u1 u2 u3 u4 u5 u6
      have u0 := MT.2.1 0 _ rfl
      have u1 := MT.2.1 1 _ rfl
      have u2 := MT.2.1 2 _ rfl
      have u3 := MT.2.1 3 _ rfl
      have u4 := MT.2.1 4 _ rfl
      have u5 := MT.2.1 5 _ rfl
      have u6 := MT.2.1 6 _ rfl
      go_wp2_with fail
      refine (TP.out _ (hR.below d6)).mono ?_
      rintro e w7 ⟨rfl, ⟨X3, Y3, o3⟩, F3, b7⟩
      have hc3 : w6.heap.size < w7.heap.size := F3.1
      have e7 : Below w6.heap.size w6 w7 := b7
      have d7 := d6.trans (b7.mono d6.size)
      replace MT := MT.below b7
      clear b7
      clear u0 u1 u2 u3 u4 u5 u6
      have u0 := MT.2.1 0 _ rfl
      have u1 := MT.2.1 1 _ rfl
      have u2 := MT.2.1 2 _ rfl
      have u3 := MT.2.1 3 _ rfl
      have u4 := MT.2.1 4 _ rfl
      have u5 := MT.2.1 5 _ rfl
      have u6 := MT.2.1 6 _ rfl
      go_wp2_with fail
      refine (TT.out _ (hT.below d7)).mono ?_
      rintro e w8 ⟨x, y, rfl, hxz, hxy, O1, O2, b8⟩
      have hx8 := O1.1
      have hy8 := O2.1
      have e8 := e7.trans (b8.mono e7.size)
      have d8 := d7.trans (b8.mono d7.size)
      have hw78 := b8.size
      have bb : Below w8.heap.size w8 (w8.alloc (.cells #[.int .i64 t.pe, .int .i64 t.o, .slice (some ⟨x, 0, none⟩) t.n0 t.n0, .int .i64 t.nx, .int .i64 t.md, .int .i64 t.pf, .slice (some ⟨y, 0, none⟩) t.n1 t.n1] 39)) := below_box (Below.refl _ _)
      have BT := Mut.new w8 #[.int .i64 t.pe, .int .i64 t.o, .slice (some ⟨x, 0, none⟩) t.n0 t.n0, .int .i64 t.nx, .int .i64 t.md, .int .i64 t.pf, .slice (some ⟨y, 0, none⟩) t.n1 t.n1] 39
      have e9 := e8.trans (bb.mono e8.size)
      have d9 := d8.trans (bb.mono d8.size)
      have hw89 := bb.size
      replace MT := (MT.below b8).below bb
      replace o3 := (o3.below b8).below bb
      replace F3 := (F3.below b8).below bb
      replace O1 := O1.below bb
      replace O2 := O2.below bb
      clear b8 bb e7 e8 d7 d8
      clear u0 u1 u2 u3 u4 u5 u6
      have p0 := BT.2.1 0 _ rfl
      have p1 := BT.2.1 1 _ rfl
      have p2 := BT.2.1 2 _ rfl
      have p3 := BT.2.1 3 _ rfl
      have p4 := BT.2.1 4 _ rfl
      have p5 := BT.2.1 5 _ rfl
      have p6 := BT.2.1 6 _ rfl
      go_wp2_with fail
      generalize w8.alloc (.cells #[.int .i64 t.pe, .int .i64 t.o, .slice (some ⟨x, 0, none⟩) t.n0 t.n0, .int .i64 t.nx, .int .i64 t.md, .int .i64 t.pf, .slice (some ⟨y, 0, none⟩) t.n1 t.n1] 39) = w9 at *
      refine (IG.out _ _ _ _ _ _ _ o3 O1 O2).mono ?_
      rintro e w10 ⟨v, rfl, hA, b10⟩
      obtain ⟨ga, gc, rfl, RG, hA⟩ := hA
      have hA := hide hA
      have hw910 := b10.size
      have e10 := e9.trans (b10.mono e9.size)
      have d10 := d9.trans (b10.mono d9.size)
      replace MT := MT.below b10
      replace BT := BT.below b10
      replace o3 := o3.below b10
      replace F3 := F3.below b10
      replace O1 := O1.below b10
      replace O2 := O2.below b10
      clear b10 d9
      clear p0 p1 p2 p3 p4 p5 p6
      go_wp2_with fail
      refine (ED.out _ _ _ _ _ RG (RW.below e10)).mono ?_
      rintro e w11 ⟨rfl, b11⟩
      have e11 := e10.trans (b11.mono e10.size)
      have d11 := d10.trans (b11.mono d10.size)
      have g11 : Below w10.heap.size w10 w11 := b11
      replace MT := MT.below b11
      replace BT := BT.below b11
      replace o3 := o3.below b11
      replace F3 := F3.below b11
      replace O1 := O1.below b11
      replace O2 := O2.below b11
      clear b11 e10 d10
      go_wp2_with fail
      refine (TP.out _ (hR.below d11)).mono ?_
      rintro e w12 ⟨rfl, ⟨X6, Y6, o6⟩, _, b12⟩
      have e12 := e11.trans (b12.mono e11.size)
      have d12 := d11.trans (b12.mono d11.size)
      have g12 := g11.trans (b12.mono g11.size)
      replace MT := MT.below b12
      replace BT := BT.below b12
      replace o3 := o3.below b12
      replace F3 := F3.below b12
      replace O1 := O1.below b12
      replace O2 := O2.below b12
      clear b12 e11 d11 g11
      go_wp2_with fail
      refine (E.out _ _ _ _ _ o3.row o6.row).mono ?_
      rintro e w13 ⟨rfl, b13⟩
      have e13 := e12.trans (b13.mono e12.size)
      have d13 := d12.trans (b13.mono d12.size)
      have g13 := g12.trans (b13.mono g12.size)
      replace MT := MT.below b13
      replace BT := BT.below b13
      replace o3 := o3.below b13
      replace F3 := F3.below b13
      replace O1 := O1.below b13
      replace O2 := O2.below b13
      clear b13 e12 d12 g12 o6
      have u0 := MT.2.1 0 _ rfl
      have u1 := MT.2.1 1 _ rfl
      have u2 := MT.2.1 2 _ rfl
      have u3 := MT.2.1 3 _ rfl
      have u4 := MT.2.1 4 _ rfl
      have u5 := MT.2.1 5 _ rfl
      have u6 := MT.2.1 6 _ rfl
      have p0 := BT.2.1 0 _ rfl
      have p1 := BT.2.1 1 _ rfl
      have p2 := BT.2.1 2 _ rfl
      have p3 := BT.2.1 3 _ rfl
      have p4 := BT.2.1 4 _ rfl
      have p5 := BT.2.1 5 _ rfl
      have p6 := BT.2.1 6 _ rfl
      go_wp2_with fail
      have hTz : ∀ w' : World, Below w13.heap.size w13 w' → OfIn a0 a1 t w' := fun w' b => hT.below (d13.trans (b.mono d13.size))
      have hOz : ∀ w' : World, Below w13.heap.size w13 w' → OfIn (some ⟨x, 0, none⟩) (some ⟨y, 0, none⟩) t w' := fun w' b => (outRow8 O1 O2).below b
      have hS : ∀ w' : World, Below w13.heap.size w13 w' → w'.cell? ⟨w.heap.size, 0, none⟩ = some (.int .i64 t.pe) ∧ w'.cell? ⟨w.heap.size, 1, none⟩ = some (.int .i64 t.o) ∧ w'.cell? ⟨w.heap.size, 2, none⟩ = some (.slice a0 t.n0 c0) ∧ w'.cell? ⟨w.heap.size, 3, none⟩ = some (.int .i64 t.nx) ∧ w'.cell? ⟨w.heap.size, 4, none⟩ = some (.int .i64 t.md) ∧ w'.cell? ⟨w.heap.size, 5, none⟩ = some (.int .i64 t.pf) ∧ w'.cell? ⟨w.heap.size, 6, none⟩ = some (.slice a1 t.n1 c1) ∧ w'.cell? ⟨w8.heap.size, 0, none⟩ = some (.int .i64 t.pe) ∧ w'.cell? ⟨w8.heap.size, 1, none⟩ = some (.int .i64 t.o) ∧ w'.cell? ⟨w8.heap.size, 2, none⟩ = some (.slice (some ⟨x, 0, none⟩) t.n0 t.n0) ∧ w'.cell? ⟨w8.heap.size, 3, none⟩ = some (.int .i64 t.nx) ∧ w'.cell? ⟨w8.heap.size, 4, none⟩ = some (.int .i64 t.md) ∧ w'.cell? ⟨w8.heap.size, 5, none⟩ = some (.int .i64 t.pf) ∧ w'.cell? ⟨w8.heap.size, 6, none⟩ = some (.slice (some ⟨y, 0, none⟩) t.n1 t.n1) := fun w' b => ⟨(MT.below b).2.1 0 _ rfl, (MT.below b).2.1 1 _ rfl, (MT.below b).2.1 2 _ rfl, (MT.below b).2.1 3 _ rfl, (MT.below b).2.1 4 _ rfl, (MT.below b).2.1 5 _ rfl, (MT.below b).2.1 6 _ rfl, (BT.below b).2.1 0 _ rfl, (BT.below b).2.1 1 _ rfl, (BT.below b).2.1 2 _ rfl, (BT.below b).2.1 3 _ rfl, (BT.below b).2.1 4 _ rfl, (BT.below b).2.1 5 _ rfl, (BT.below b).2.1 6 _ rfl⟩
      obtain ⟨h_a, h_b, h_c, h_d, h_e, h_f, h_g, h_h, h_i, h_j, h_k, h_l, h_m, h_n⟩ := hS w13 (Below.refl _ _)
      go_region_held3 (fun w' => w'.cell? ⟨w.heap.size, 0, none⟩ = some (.int .i64 t.pe) ∧ w'.cell? ⟨w.heap.size, 1, none⟩ = some (.int .i64 t.o) ∧ w'.cell? ⟨w.heap.size, 2, none⟩ = some (.slice a0 t.n0 c0) ∧ w'.cell? ⟨w.heap.size, 3, none⟩ = some (.int .i64 t.nx) ∧ w'.cell? ⟨w.heap.size, 4, none⟩ = some (.int .i64 t.md) ∧ w'.cell? ⟨w.heap.size, 5, none⟩ = some (.int .i64 t.pf) ∧ w'.cell? ⟨w.heap.size, 6, none⟩ = some (.slice a1 t.n1 c1) ∧ w'.cell? ⟨w8.heap.size, 0, none⟩ = some (.int .i64 t.pe) ∧ w'.cell? ⟨w8.heap.size, 1, none⟩ = some (.int .i64 t.o) ∧ w'.cell? ⟨w8.heap.size, 2, none⟩ = some (.slice (some ⟨x, 0, none⟩) t.n0 t.n0) ∧ w'.cell? ⟨w8.heap.size, 3, none⟩ = some (.int .i64 t.nx) ∧ w'.cell? ⟨w8.heap.size, 4, none⟩ = some (.int .i64 t.md) ∧ w'.cell? ⟨w8.heap.size, 5, none⟩ = some (.int .i64 t.pf) ∧ w'.cell? ⟨w8.heap.size, 6, none⟩ = some (.slice (some ⟨y, 0, none⟩) t.n1 t.n1))
        (first | exact hS _ (Below.refl _ _) | exact hS _ (Below.refl _ _).drew | exact hS _ dE | exact hS _ dE.drew | exact hS _ dT | exact hS _ dT.drew | go_keep)
        ((first
          | (have hq0 := dT; go_at_call 23; refine (ET.out _ _ _ _ _ _ _ _ _ (by first | exact hOz _ dT | exact hOz _ dT.drew) (by first | exact outRow8 P1 P2 | exact (outRow8 P1 P2).below (Below.refl _ _).drew)).mono ?_; rintro e w15 ⟨rfl, bE⟩; have dE : Below w13.heap.size w13 w15 := (by first | exact below_step dT bE | exact below_step dT.drew bE))
          | (go_at_call 21; refine (TT.out _ (by first | exact hTz _ (Below.refl _ _) | exact hTz _ (Below.refl _ _).drew)).mono ?_; rintro e w14 ⟨x1, y1, rfl, _, _, P1, P2, bT⟩; have dT : Below w13.heap.size w13 w14 := (by first | exact bT | exact (Below.refl _ _).drew.trans bT))))
      clear hS h_a h_b h_c h_d h_e h_f h_g h_h h_i h_j h_k h_l h_m h_n
      have e15 := e13.trans (dE.mono e13.size)
      have d15 := d13.trans (dE.mono d13.size)
      have g15 := g13.trans (dE.mono g13.size)
      replace MT := MT.below dE
      replace BT := BT.below dE
      replace o3 := o3.below dE
      replace F3 := F3.below dE
      replace O1 := O1.below dE
      replace O2 := O2.below dE
      clear hTz hOz P1 P2 dT bT bE dE e13 d13 g13
      clear u0 u1 u2 u3 u4 u5 u6 p0 p1 p2 p3 p4 p5 p6
      obtain ⟨RA3, SP3, BK3⟩ := o3.own F3
      go_wp2_with fail
      refine (MK.out _ _ _ _ _ _ _ SP3 RA3).mono ?_
      rintro e w16 ⟨rfl, _, OS⟩
      have f16 : Below w6.heap.size w15 w16 := OS.below (fun k hk => by rcases BK3 k hk with h | h <;> omega) e15.size
      have hnb : ∀ k, w7.heap.size ≤ k → ¬ BlkO w6.heap.size n X3 Y3 k := fun k hk hb => by rcases BK3 k hb with h | h <;> omega
      replace BT := BT.onlyS8 OS (hnb _ hw78)
      replace MT := MT.base hm6 f16
      replace O1 := O1.onlyS OS (hnb _ hxz)
      replace O2 := O2.onlyS OS (hnb _ (by omega))
      have e16 := e15.trans f16
      have d16 := d15.trans (f16.mono d6.size)
      have hs16 := f16.size
      have p0 := BT.2.1 0 _ rfl
      have p1 := BT.2.1 1 _ rfl
      have p2 := BT.2.1 2 _ rfl
      have p3 := BT.2.1 3 _ rfl
      have p4 := BT.2.1 4 _ rfl
      have p5 := BT.2.1 5 _ rfl
      have p6 := BT.2.1 6 _ rfl
      go_wp2_with fail
      refine (MO.out _ _ _ (by omega) O1 O2).mono ?_
      rintro e w17 ⟨rfl, wm, q1, q2⟩
      have OX : OnlyS (fun k => k = x ∨ k = y) w16 w17 := (OnlyS.of_only q1 (.inl rfl)).trans (OnlyS.of_only q2 (.inr rfl))
      have f17 : Below w6.heap.size w16 w17 := OX.below (fun k hk => by rcases hk with h | h <;> omega) e16.size
      have e17 := e16.trans f17
      have d17 := d16.trans (f17.mono d6.size)
      replace MT := MT.base hm6 f17
      have hA17 : Hid (D = [] ∨ ∃ g X Y K L, ga = some ⟨g, 0, none⟩ ∧ RowOA g D.length X Y K L (TL D) w17 ∧ SepO g D.length X Y ∧ ∀ k, BlkO g D.length X Y k → w9.heap.size ≤ k) := by
        rcases hA.out with h | ⟨g, X, Y, K, L, h1, h2, h3, h4⟩
        · exact .inl h
        · refine .inr ⟨g, X, Y, K, L, h1, ((h2.below g15).onlyS OS ?_).onlyS OX ?_, h3, h4⟩
          · intro k hk hb
            have := h4 k hk
            exact hnb k (by omega) hb
          · intro k hk hb
            have := h4 k hk
            rcases hb with h | h <;> omega
      have RG17 : Hid (RowO ga D.length (TL D) w17) := by
        rcases hA17.out with h | ⟨g, X, Y, K, L, h1, h2, _⟩
        · rw [Hid, h]; exact fun i hi => absurd hi (Nat.not_lt_zero _)
        · rw [Hid, h1]; exact h2.row
      have hs17 : w9.heap.size ≤ w17.heap.size := Nat.le_trans (Nat.le_trans (Nat.le_trans hw910 g15.size) hs16) f17.size
      clear RA3 SP3 BK3 OS OX hnb q1 q2 o3 F3 hA RG f16 f17 e15 e16 d15 d16 g15 BT O1 O2 hs16
      clear p0 p1 p2 p3 p4 p5 p6
      go_wp2_with fail
      refine (ED.out _ _ _ _ _ RG17.out (RW.below e17)).mono ?_
      rintro e w18 ⟨rfl, b18⟩
      have e18 := e17.trans (b18.mono e17.size)
      have d18 := d17.trans (b18.mono d17.size)
      replace MT := MT.below b18
      have hA18 : Hid (D = [] ∨ ∃ g X Y K L, ga = some ⟨g, 0, none⟩ ∧ RowOA g D.length X Y K L (TL D) w18 ∧ SepO g D.length X Y ∧ ∀ k, BlkO g D.length X Y k → w9.heap.size ≤ k) := by
        rcases hA17.out with h | ⟨g, X, Y, K, L, h1, h2, h3, h4⟩
        · exact .inl h
        · exact .inr ⟨g, X, Y, K, L, h1, h2.below b18, h3, h4⟩
      have hs18 := Nat.le_trans hs17 b18.size
      clear hA17 RG17 b18 e17 d17 hs17
      go_wp2_with fail
      refine (MA.out w9.heap.size _ _ _ hs18 hA18.out).mono ?_
      rintro e w19 ⟨rfl, RH, b19⟩
      have e19 := e18.trans (b19.mono e9.size)
      have d19 := d18.trans (b19.mono (Nat.le_trans d6.size e9.size))
      replace MT := MT.base (by have := e9.size; omega) b19
      clear hA18 hs18 b19 e18 d18
      go_wp2_with fail
      refine (HA.out _ _ _ RH).mono ?_
      rintro e w20 ⟨rfl, b20⟩
      have e20 := e19.trans (b20.mono e19.size)
      have d20 := d19.trans (b20.mono d19.size)
      replace RH := RH.below b20
      replace MT := MT.below b20
      clear b20 e19 d19
      have u0 := MT.2.1 0 _ rfl
      have u1 := MT.2.1 1 _ rfl
      have u2 := MT.2.1 2 _ rfl
      have u3 := MT.2.1 3 _ rfl
      have u4 := MT.2.1 4 _ rfl
      have u5 := MT.2.1 5 _ rfl
      have u6 := MT.2.1 6 _ rfl
      have hTz : ∀ w' : World, Below w20.heap.size w20 w' → OfIn a0 a1 t w' := fun w' b => hT.below (d20.trans (b.mono d20.size))
      have hRz : ∀ w' : World, Below w20.heap.size w20 w' → RowO a n T w' := fun w' b => hR.below (d20.trans (b.mono d20.size))
      have hS : ∀ w' : World, Below w20.heap.size w20 w' → w'.cell? ⟨w.heap.size, 0, none⟩ = some (.int .i64 t.pe) ∧ w'.cell? ⟨w.heap.size, 1, none⟩ = some (.int .i64 t.o) ∧ w'.cell? ⟨w.heap.size, 2, none⟩ = some (.slice a0 t.n0 c0) ∧ w'.cell? ⟨w.heap.size, 3, none⟩ = some (.int .i64 t.nx) ∧ w'.cell? ⟨w.heap.size, 4, none⟩ = some (.int .i64 t.md) ∧ w'.cell? ⟨w.heap.size, 5, none⟩ = some (.int .i64 t.pf) ∧ w'.cell? ⟨w.heap.size, 6, none⟩ = some (.slice a1 t.n1 c1) := fun w' b => ⟨(MT.below b).2.1 0 _ rfl, (MT.below b).2.1 1 _ rfl, (MT.below b).2.1 2 _ rfl, (MT.below b).2.1 3 _ rfl, (MT.below b).2.1 4 _ rfl, (MT.below b).2.1 5 _ rfl, (MT.below b).2.1 6 _ rfl⟩
      obtain ⟨h_a, h_b, h_c, h_d, h_e, h_f, h_g⟩ := hS w20 (Below.refl _ _)
      go_wp2_with fail
      go_region_held3 (fun w' => w'.cell? ⟨w.heap.size, 0, none⟩ = some (.int .i64 t.pe) ∧ w'.cell? ⟨w.heap.size, 1, none⟩ = some (.int .i64 t.o) ∧ w'.cell? ⟨w.heap.size, 2, none⟩ = some (.slice a0 t.n0 c0) ∧ w'.cell? ⟨w.heap.size, 3, none⟩ = some (.int .i64 t.nx) ∧ w'.cell? ⟨w.heap.size, 4, none⟩ = some (.int .i64 t.md) ∧ w'.cell? ⟨w.heap.size, 5, none⟩ = some (.int .i64 t.pf) ∧ w'.cell? ⟨w.heap.size, 6, none⟩ = some (.slice a1 t.n1 c1))
        (first | exact hS _ (Below.refl _ _) | exact hS _ (Below.refl _ _).drew | exact hS _ dS | exact hS _ dS.drew | exact hS _ dR | exact hS _ dR.drew | exact hS _ dA | exact hS _ dA.drew | go_keep)
        ((first
          | (have hq0 := dR; go_at_call 33; refine (IG.out _ _ _ _ _ _ _ (by first | exact hOA | exact hOA.below (Below.refl _ _).drew) (by first | exact O1 | exact O1.below (Below.refl _ _).drew) (by first | exact O2 | exact O2.below (Below.refl _ _).drew)).mono ?_; rintro e w23 ⟨v2, rfl, hB, bS⟩; have dS : Below w20.heap.size w20 w23 := (by first | exact below_step dR bS | exact below_step dR.drew bS))
          | (have hq0 := dA; go_at_call 21; refine (TT.out _ (by first | exact hTz _ dA | exact hTz _ dA.drew)).mono ?_; rintro e w22 ⟨xs, ys, rfl, _, _, O1, O2, bR⟩; have dR : Below w20.heap.size w20 w22 := (by first | exact below_step dA bR | exact below_step dA.drew bR); have hOA := oA.below (show Below w21.heap.size w21 w22 from (by first | exact bR | exact (Below.refl _ _).drew.trans bR)))
          | (go_at_call 16; refine (TP.out _ (by first | exact hRz _ (Below.refl _ _) | exact hRz _ (Below.refl _ _).drew)).mono ?_; rintro e w21 ⟨rfl, ⟨XA, YA, oA⟩, _, bA⟩; have dA : Below w20.heap.size w20 w21 := (by first | exact bA | exact (Below.refl _ _).drew.trans bA))))
      clear hS h_a h_b h_c h_d h_e h_f h_g hTz hRz
      obtain ⟨ha, hc, rfl, RB, _⟩ := hB
      have e23 := e20.trans (dS.mono e20.size)
      have d23 := d20.trans (dS.mono d20.size)
      replace RH := RH.below dS
      clear dS dR dA oA hOA O1 O2 bS bR bA e20 d20 MT
      clear u0 u1 u2 u3 u4 u5 u6
      go_wp2_with fail
      refine (ED.out _ _ _ _ _ RB (RW.below e23)).mono ?_
      rintro e w24 ⟨rfl, b24⟩
      have d24 := d23.trans (b24.mono d23.size)
      replace RH := RH.below b24
      clear b24 e23 d23 RB
      go_wp2_with fail
      refine (HA.out _ _ _ RH).mono ?_
      rintro e w25 ⟨rfl, b25⟩
      have d25 := d24.trans (b25.mono d24.size)
      go_wp2_with fail
      go_ret
      exact ⟨rfl, d25⟩
    · rw [if_neg hs2] at SZ2
      clear hs hs2 hn hx h0 h1 htt
      go_enter Try.func7, Try.ntmps7
      go_wp2_with fail
      generalize w.alloc (.cells #[.int .i64 t.pe, .int .i64 t.o, .slice a0 t.n0 c0, .int .i64 t.nx, .int .i64 t.md, .int .i64 t.pf, .slice a1 t.n1 c1] 33) = w1 at *
      refine (SZ.out _ (hR.below d0)).mono ?_
      rintro e w2 ⟨rfl, b2⟩
      have d2 := d0.trans (b2.mono d0.size)
      replace MT := MT.below b2
      clear b2 d0
      have u0 := MT.2.1 0 _ rfl
      have u1 := MT.2.1 1 _ rfl
      have u2 := MT.2.1 2 _ rfl
      have u3 := MT.2.1 3 _ rfl
      have u4 := MT.2.1 4 _ rfl
      have u5 := MT.2.1 5 _ rfl
      have u6 := MT.2.1 6 _ rfl
      go_wp2_with fail
      refine (SZ2.out _).mono ?_
      rintro e w3 ⟨rfl, b3⟩
      have d3 := d2.trans (b3.mono d2.size)
      go_wp2_with fail
      go_ret
      exact ⟨rfl, d3⟩
  · rw [if_neg hs] at SZ
    clear hs hn hx h0 h1 htt
    go_enter Try.func7, Try.ntmps7
    go_wp2_with fail
    generalize w.alloc (.cells #[.int .i64 t.pe, .int .i64 t.o, .slice a0 t.n0 c0, .int .i64 t.nx, .int .i64 t.md, .int .i64 t.pf, .slice a1 t.n1 c1] 33) = w1 at *
    refine (SZ.out _ (hR.below d0)).mono ?_
    rintro e w2 ⟨rfl, b2⟩
    have d2 := d0.trans (b2.mono d0.size)
    go_wp2_with fail
    go_ret
    exact ⟨rfl, d2⟩
end Go.Proofs.Ytgkjokobbeahfaa

/- Small means for what came in: lists of a known length, addresses. -/
namespace Go.Proofs.Ytgkjokobbeahfaa

theorem list2 {α : Type} {l : List α} (h : l.length = 2) : ∃ a b, l = [a, b] := by
  match l, h with
  | [a, b], _ => exact ⟨a, b, rfl⟩
theorem list3 {α : Type} {l : List α} (h : l.length = 3) : ∃ a b c, l = [a, b, c] := by
  match l, h with
  | [a, b, c], _ => exact ⟨a, b, c, rfl⟩
theorem list4 {α : Type} {l : List α} (h : l.length = 4) : ∃ a b c d, l = [a, b, c, d] := by
  match l, h with
  | [a, b, c, d], _ => exact ⟨a, b, c, d, rfl⟩
theorem addr_plain {W : World} {x : Addr} {v : Value} (h : W.cell? x = some v) : ∃ b off, x = ⟨b, off, none⟩ := by
  obtain ⟨b, off, spot⟩ := x
  have hspot : spot = none := by simpa using World.cell?_spot h
  subst hspot
  exact ⟨b, off, rfl⟩
end Go.Proofs.Ytgkjokobbeahfaa

/- A list of whole numbers that came in, opened: its cells; and attrs that came in. -/
namespace Go.Proofs.Ytgkjokobbeahfaa
open Go.ChangeShapes Go.WideShapes Go.ChangeAt Go.RowKit Go.Deep Go.Joins

theorem choose_ltI {len : Nat} {p : Nat → Int → Prop} (h : ∀ i, i < len → ∃ q, p i q) : ∃ f : Nat → Int, ∀ i, i < len → p i (f i) := by
  refine ⟨fun i => if hi : i < len then Classical.choose (h i hi) else 0, fun i hi => ?_⟩
  simp only [dif_pos hi]
  exact Classical.choose_spec (h i hi)
theorem array6 {α : Type} {cs : Array α} (h : cs.size = 6) : ∃ c0 c1 c2 c3 c4 c5, cs = #[c0, c1, c2, c3, c4, c5] := by
  obtain ⟨l⟩ := cs
  match l, h with
  | [c0, c1, c2, c3, c4, c5], _ => exact ⟨c0, c1, c2, c3, c4, c5, rfl⟩
theorem list6 {α : Type} {l : List α} (h : l.length = 6) : ∃ a b c d e f, l = [a, b, c, d, e, f] := by
  match l, h with
  | [a, b, c, d, e, f], _ => exact ⟨a, b, c, d, e, f, rfl⟩

set_option maxRecDepth 100000 in
theorem open_rowInt {H : Type} {enc : TypeId × Value → H} {W : World} {base : Nat} {spare : Nat → Bool} {held : Bool} {fuel : Nat} {a : Option Addr} {len cap : Nat} {y : DataW H × List MemPlace}
    (h : DataW.trod enc Try.prog W base spare held fuel 29 [.slice a len cap] = some y) : len ≤ maxLen ∧ ∃ f, RowInt a len f W := by
  rcases open_slice Try.underlying29 h with ⟨hcs, _⟩ | ⟨x, l, c, m, n, D, Pl, hcs, _, hl, hm, hmm, _, hel⟩
  · simp at hcs
    obtain ⟨rfl, rfl, rfl⟩ := hcs
    exact ⟨Nat.zero_le _, fun _ => 0, fun i hi => absurd hi (Nat.not_lt_zero _)⟩
  · simp at hcs
    obtain ⟨rfl, rfl, rfl⟩ := hcs
    have hlm : len ≤ m := by rw [hmm]; split <;> omega
    have ci : Try.prog.cellsOf 3 = 1 := by kernel_rfl
    have each : ∀ i, i < len → ∃ q : Int, ∃ b off, x = ⟨b, off, none⟩ ∧ b < W.heap.size ∧ W.cell? ⟨b, off + i, none⟩ = some (.int .i64 q) := by
      intro i hi
      have hx : ∃ b off, x = ⟨b, off, none⟩ := by
        obtain ⟨cs0, h1, _⟩ := hel 0 (by omega)
        rw [ci] at h1
        obtain ⟨_, hlen, hcell⟩ := World.cells?_some h1
        have := hcell 0 (by omega)
        rw [List.getElem?_eq_getElem (by omega)] at this
        exact addr_plain (by simpa [Addr.add] using this)
      obtain ⟨b, off, rfl⟩ := hx
      obtain ⟨cs', h1, h2⟩ := hel i (by omega)
      rw [ci] at h1
      obtain ⟨_, hlen, hcell⟩ := World.cells?_some h1
      obtain ⟨v0, rfl⟩ := List.length_eq_one_iff.1 hlen
      obtain ⟨w0, hw0, _⟩ := DataW.trod_int Try.underlying3 h2
      simp at hw0
      subst hw0
      have c0 := hcell 0 (by omega)
      rw [add_add, Addr.add_mid] at c0
      have hb := World.block_lt_of_cell? W _ c0
      exact ⟨w0, b, off, rfl, hb, by simpa using c0⟩
    obtain ⟨q, hq⟩ := choose_ltI each
    refine ⟨Nat.le_trans hl hm, q, fun i hi => ?_⟩
    obtain ⟨b, off, hx, h⟩ := hq i hi
    exact ⟨b, off, by rw [hx], h⟩

/-- Attrs that came in: their value, and how their lists lie. -/
def AttrsIn (v : Value) (o nx md pf : Int) (a0 : Option Addr) (n0 c0 : Nat) (f : Nat → Int) (a1 : Option Addr) (n1 c1 : Nat) (g : Nat → Int) (w : World) : Prop :=
  v = .agg #[.int .i64 o, .slice a0 n0 c0, .int .i64 nx, .int .i64 md, .int .i64 pf, .slice a1 n1 c1] ∧ n0 ≤ maxLen ∧ RowInt a0 n0 f w ∧ n1 ≤ maxLen ∧ RowInt a1 n1 g w
set_option maxRecDepth 100000 in
theorem open_attrs {H : Type} {enc : TypeId × Value → H} {W : World} {base : Nat} {spare : Nat → Bool} {held : Bool} {fuel : Nat} {vs : List Value} {y : DataW H × List MemPlace} (hvs : vs.length = 6)
    (h : DataW.trod enc Try.prog W base spare held fuel 31 vs = some y) : ∃ o nx md pf a0 n0 c0 f a1 n1 c1 g, vs = [.int .i64 o, .slice a0 n0 c0, .int .i64 nx, .int .i64 md, .int .i64 pf, .slice a1 n1 c1] ∧ n0 ≤ maxLen ∧ RowInt a0 n0 f W ∧ n1 ≤ maxLen ∧ RowInt a1 n1 g W := by
  have ci : Try.prog.cellsOf 3 = 1 := by kernel_rfl
  have cl : Try.prog.cellsOf 29 = 1 := by kernel_rfl
  obtain ⟨v0, v1, v2, v3, v4, v5, rfl⟩ := list6 hvs
  obtain ⟨xs, k, hk, hxy, _, hxl, hf⟩ := DataW.trod_struct Try.underlying31 h
  obtain ⟨y0, y1, y2, y3, y4, y5, rfl⟩ := list6 (show xs.length = 6 by rw [hxl]; rfl)
  have g0 := hf 0 _ rfl
  have g1 := hf 1 _ rfl
  have g2 := hf 2 _ rfl
  have g3 := hf 3 _ rfl
  have g4 := hf 4 _ rfl
  have g5 := hf 5 _ rfl
  simp [ci, cl] at g0 g1 g2 g3 g4 g5
  obtain ⟨w0, hw0, _⟩ := DataW.trod_int Try.underlying3 g0
  obtain ⟨a0, n0, c0, hw1⟩ := slice_form Try.underlying29 g1
  obtain ⟨w2, hw2, _⟩ := DataW.trod_int Try.underlying3 g2
  obtain ⟨w3, hw3, _⟩ := DataW.trod_int Try.underlying3 g3
  obtain ⟨w4, hw4, _⟩ := DataW.trod_int Try.underlying3 g4
  obtain ⟨a1, n1, c1, hw5⟩ := slice_form Try.underlying29 g5
  simp at hw0 hw1 hw2 hw3 hw4 hw5
  subst hw0 hw1 hw2 hw3 hw4 hw5
  obtain ⟨hl0, f, hR0⟩ := open_rowInt g1
  obtain ⟨hl1, g, hR1⟩ := open_rowInt g5
  exact ⟨w0, w2, w3, w4, a0, n0, c0, f, a1, n1, c1, g, rfl, hl0, hR0, hl1, hR1⟩
end Go.Proofs.Ytgkjokobbeahfaa

/- Rows of Prefix in memory, and what the laws do with them: handed over, compared. -/
namespace Go.Proofs.Ytgkjokobbeahfaa
open Go.RowKit

/-- n of them at a, told by f0 f1. -/
def RowPrefix (a : Option Addr) (n : Nat) (f0 : Nat → Int) (f1 : Nat → Int) (w : World) : Prop := ∀ i, i < n → ∃ b off, a = some ⟨b, off, none⟩ ∧ b < w.heap.size ∧
  w.cell? ⟨b, off + i * 2, none⟩ = some (.int .i64 (f0 i)) ∧ w.cell? ⟨b, off + i * 2 + 1, none⟩ = some (.int .i64 (f1 i))
theorem RowPrefix.below {a : Option Addr} {n : Nat} {f0 : Nat → Int} {f1 : Nat → Int} {w w' : World} (h : RowPrefix a n f0 f1 w) (k : Below w.heap.size w w') : RowPrefix a n f0 f1 w' := by
  intro i hi
  obtain ⟨b, off, ha, hb, h0, h1⟩ := h i hi
  obtain ⟨hc, _⟩ := bcell k
  exact ⟨b, off, ha, Nat.lt_of_lt_of_le hb k.size, (hc _ _ hb).trans h0, (hc _ _ hb).trans h1⟩

/-- A row of n of them in block c, the first k told; it may be written. -/
def OutPrefix (c n k : Nat) (f0 : Nat → Int) (f1 : Nat → Int) (w : World) : Prop := c < w.heap.size ∧ ∀ i, i < n →
  (∃ (x0 : Int) (x1 : Int), w.cell? ⟨c, i * 2, none⟩ = some (.int .i64 x0) ∧ w.cell? ⟨c, i * 2 + 1, none⟩ = some (.int .i64 x1) ∧ (i < k → x0 = f0 i ∧ x1 = f1 i)) ∧
  w.frozen? ⟨c, i * 2, none⟩ = false ∧ w.frozen? ⟨c, i * 2 + 1, none⟩ = false
theorem OutPrefix.below {c n k : Nat} {f0 : Nat → Int} {f1 : Nat → Int} {w w' : World} (h : OutPrefix c n k f0 f1 w) (hb : Below w.heap.size w w') : OutPrefix c n k f0 f1 w' := by
  obtain ⟨hc, hf⟩ := bcell hb
  refine ⟨Nat.lt_of_lt_of_le h.1 hb.size, fun i hi => ?_⟩
  obtain ⟨⟨x0, x1, h0, h1, hk⟩, g0, g1⟩ := h.2 i hi
  exact ⟨⟨x0, x1, (hc _ _ h.1).trans h0, (hc _ _ h.1).trans h1, hk⟩, (hf _ _ h.1).trans g0, (hf _ _ h.1).trans g1⟩
theorem OutPrefix.row {c n : Nat} {f0 : Nat → Int} {f1 : Nat → Int} {w : World} (h : OutPrefix c n n f0 f1 w) : RowPrefix (some ⟨c, 0, none⟩) n f0 f1 w := by
  intro i hi
  obtain ⟨⟨x0, x1, h0, h1, hk⟩, g0, g1⟩ := h.2 i hi
  obtain ⟨rfl, rfl⟩ := hk hi
  exact ⟨c, 0, rfl, h.1, by rw [Nat.zero_add]; exact h0, by rw [Nat.zero_add]; exact h1⟩
theorem OutPrefix.set {c n k : Nat} {f0 : Nat → Int} {f1 : Nat → Int} {w : World} (h : OutPrefix c n k f0 f1 w) (hk : k < n) : OutPrefix c n (k + 1) f0 f1 ((w.setCell ⟨c, k * 2, none⟩ (.int .i64 (f0 k))).setCell ⟨c, k * 2 + 1, none⟩ (.int .i64 (f1 k))) := by
  refine ⟨by have := h.1; simpa using this, fun i hi => ?_⟩
  obtain ⟨⟨x0, x1, h0, h1, hx⟩, g0, g1⟩ := h.2 i hi
  by_cases e : i = k
  · subst e
    refine ⟨⟨f0 i, f1 i, ?_, ?_, fun _ => ⟨rfl, rfl⟩⟩, ?_, ?_⟩ <;> simp [go_sem, h0, h1, g0, g1]
  · refine ⟨⟨x0, x1, ?_, ?_, fun hlt => hx (by omega)⟩, ?_, ?_⟩
    · rw [World.cell?_setCell_other _ _ _ _ (by simp <;> omega), World.cell?_setCell_other _ _ _ _ (by simp <;> omega)]; exact h0
    · rw [World.cell?_setCell_other _ _ _ _ (by simp <;> omega), World.cell?_setCell_other _ _ _ _ (by simp <;> omega)]; exact h1
    · simpa [go_sem] using g0
    · simpa [go_sem] using g1

end Go.Proofs.Ytgkjokobbeahfaa

/- A list of Prefix that came in, opened: its cells. -/
namespace Go.Proofs.Ytgkjokobbeahfaa
open Go.ChangeShapes Go.WideShapes Go.ChangeAt Go.RowKit Go.Deep

end Go.Proofs.Ytgkjokobbeahfaa

/- An update that came in, opened. -/
namespace Go.Proofs.Ytgkjokobbeahfaa
open Go.ChangeShapes Go.WideShapes Go.ChangeAt Go.RowKit Go.Deep Go.Joins

theorem list8 {α : Type} {l : List α} (h : l.length = 8) : ∃ a b c d e f g i, l = [a, b, c, d, e, f, g, i] := by
  match l, h with
  | [a, b, c, d, e, f, g, i], _ => exact ⟨a, b, c, d, e, f, g, i, rfl⟩
theorem array8 {α : Type} {cs : Array α} (h : cs.size = 8) : ∃ a b c d e f g i, cs = #[a, b, c, d, e, f, g, i] := by
  obtain ⟨l⟩ := cs
  obtain ⟨a, b, c, d, e, f, g, i, rfl⟩ := list8 h
  exact ⟨a, b, c, d, e, f, g, i, rfl⟩
end Go.Proofs.Ytgkjokobbeahfaa

/- Offers and lists of offers that came in, opened. -/
namespace Go.Proofs.Ytgkjokobbeahfaa
open Go.ChangeShapes Go.WideShapes Go.ChangeAt Go.RowKit Go.Deep Go.Joins

theorem choose_oc {len : Nat} {p : Nat → Oc → Prop} (h : ∀ i, i < len → ∃ q, p i q) : ∃ f : Nat → Oc, ∀ i, i < len → p i (f i) := by
  refine ⟨fun i => if hi : i < len then Classical.choose (h i hi) else oc0, fun i hi => ?_⟩
  simp only [dif_pos hi]
  exact Classical.choose_spec (h i hi)
theorem seven {α : Type} {l : List α} (h : l.length = 7) : ∃ a b c d e f g, l = [a, b, c, d, e, f, g] := by
  match l, h with
  | [a, b, c, d, e, f, g], _ => exact ⟨a, b, c, d, e, f, g, rfl⟩
theorem arr7 {α : Type} {cs : Array α} (h : cs.size = 7) : ∃ a b c d e f g, cs = #[a, b, c, d, e, f, g] := by
  obtain ⟨l⟩ := cs
  obtain ⟨a, b, c, d, e, f, g, rfl⟩ := seven h
  exact ⟨a, b, c, d, e, f, g, rfl⟩
theorem twoO {α : Type} {l : List α} (h : l.length = 2) : ∃ a b, l = [a, b] := by
  match l, h with
  | [a, b], _ => exact ⟨a, b, rfl⟩
set_option maxRecDepth 100000 in
theorem open_offer {H : Type} {enc : TypeId × Value → H} {W : World} {base : Nat} {spare : Nat → Bool} {held : Bool} {fuel : Nat} {vs : List Value} {y : DataW H × List MemPlace} (hvs : vs.length = 7)
    (h : DataW.trod enc Try.prog W base spare held fuel 33 vs = some y) : ∃ (a0 : Option Addr) (c0 : Nat) (a1 : Option Addr) (c1 : Nat) (t : Oc), vs = [.int .i64 t.pe, .int .i64 t.o, .slice a0 t.n0 c0, .int .i64 t.nx, .int .i64 t.md, .int .i64 t.pf, .slice a1 t.n1 c1] ∧ t.n0 ≤ maxLen ∧ t.n1 ≤ maxLen ∧ OfIn a0 a1 t W := by
  have ci : Try.prog.cellsOf 3 = 1 := by kernel_rfl
  have ca : Try.prog.cellsOf 31 = 6 := by kernel_rfl
  obtain ⟨v0, v1, v2, v3, v4, v5, v6, rfl⟩ := seven hvs
  obtain ⟨xs, k, hk, hxy, _, hxl, hf⟩ := DataW.trod_struct Try.underlying33 h
  obtain ⟨y0, y1, rfl⟩ := twoO (show xs.length = 2 by rw [hxl]; rfl)
  have g0 := hf 0 _ rfl
  have g1 := hf 1 _ rfl
  simp [ci, ca] at g0 g1
  obtain ⟨pe, hw0, _⟩ := DataW.trod_int Try.underlying3 g0
  simp at hw0
  subst hw0
  obtain ⟨o, nx, md, pf, a0, n0, c0, f, a1, n1, c1, g, hvs', l0, R0, l1, R1⟩ := open_attrs (vs := [v1, v2, v3, v4, v5, v6]) rfl g1
  simp at hvs'
  obtain ⟨rfl, rfl, rfl, rfl, rfl, rfl⟩ := hvs'
  exact ⟨a0, c0, a1, c1, ⟨pe, o, nx, md, pf, n0, f, n1, g⟩, rfl, l0, l1, R0, R1⟩
set_option maxRecDepth 100000 in
theorem open_offers {H : Type} {enc : TypeId × Value → H} {W : World} {base : Nat} {spare : Nat → Bool} {held : Bool} {fuel : Nat} {a : Option Addr} {len cap : Nat} {y : DataW H × List MemPlace}
    (h : DataW.trod enc Try.prog W base spare held fuel 22 [.slice a len cap] = some y) : len ≤ maxLen ∧ ∃ T, RowO a len T W ∧ MaxO len T := by
  rcases open_slice Try.underlying22 h with ⟨hcs, _⟩ | ⟨x, l, c, m, n, D, Pl, hcs, _, hl, hm, hmm, _, hel⟩
  · simp at hcs
    obtain ⟨rfl, rfl, rfl⟩ := hcs
    exact ⟨Nat.zero_le _, fun _ => oc0, fun i hi => absurd hi (Nat.not_lt_zero _), fun i hi => absurd hi (Nat.not_lt_zero _)⟩
  · simp at hcs
    obtain ⟨rfl, rfl, rfl⟩ := hcs
    have hlm : len ≤ m := by rw [hmm]; split <;> omega
    have hce : Try.prog.cellsOf 33 = 7 := by kernel_rfl
    have each : ∀ i, i < len → ∃ t : Oc, (∃ (b off : Nat) (a0 : Option Addr) (c0 : Nat) (a1 : Option Addr) (c1 : Nat), x = ⟨b, off, none⟩ ∧ b < W.heap.size ∧
        W.cell? ⟨b, off + i * 7, none⟩ = some (.int .i64 t.pe) ∧ W.cell? ⟨b, off + i * 7 + 1, none⟩ = some (.int .i64 t.o) ∧ W.cell? ⟨b, off + i * 7 + 2, none⟩ = some (.slice a0 t.n0 c0) ∧ W.cell? ⟨b, off + i * 7 + 3, none⟩ = some (.int .i64 t.nx) ∧ W.cell? ⟨b, off + i * 7 + 4, none⟩ = some (.int .i64 t.md) ∧ W.cell? ⟨b, off + i * 7 + 5, none⟩ = some (.int .i64 t.pf) ∧ W.cell? ⟨b, off + i * 7 + 6, none⟩ = some (.slice a1 t.n1 c1) ∧ OfIn a0 a1 t W) ∧ t.n0 ≤ maxLen ∧ t.n1 ≤ maxLen := by
      intro i hi
      have hx : ∃ b off, x = ⟨b, off, none⟩ := by
        obtain ⟨cs0, h1, _⟩ := hel 0 (by omega)
        rw [hce] at h1
        obtain ⟨_, hlen, hcell⟩ := World.cells?_some h1
        have := hcell 0 (by omega)
        rw [List.getElem?_eq_getElem (by omega)] at this
        exact addr_plain (by simpa [Addr.add] using this)
      obtain ⟨b, off, rfl⟩ := hx
      obtain ⟨cs', h1, h2⟩ := hel i (by omega)
      rw [hce] at h1
      obtain ⟨_, hlen, hcell⟩ := World.cells?_some h1
      obtain ⟨a0, c0, a1, c1, t, rfl, l0, l1, hin⟩ := open_offer hlen h2
      have c0 := hcell 0 (by omega)
      have c1 := hcell 1 (by omega)
      have c2 := hcell 2 (by omega)
      have c3 := hcell 3 (by omega)
      have c4 := hcell 4 (by omega)
      have c5 := hcell 5 (by omega)
      have c6 := hcell 6 (by omega)
      rw [add_add, Addr.add_mid] at c0 c1 c2 c3 c4 c5 c6
      have hb := World.block_lt_of_cell? W _ c0
      exact ⟨t, ⟨b, off, a0, _, a1, _, rfl, hb, by simpa using c0, by simpa [Nat.add_assoc] using c1, by simpa [Nat.add_assoc] using c2, by simpa [Nat.add_assoc] using c3, by simpa [Nat.add_assoc] using c4, by simpa [Nat.add_assoc] using c5, by simpa [Nat.add_assoc] using c6, hin⟩, l0, l1⟩
    obtain ⟨T, hT⟩ := choose_oc each
    refine ⟨Nat.le_trans hl hm, T, fun i hi => ?_, fun i hi => (hT i hi).2⟩
    obtain ⟨b, off, a0, c0, a1, c1, hx, hr⟩ := (hT i hi).1
    exact ⟨b, off, a0, c0, a1, c1, by rw [hx], hr⟩
end Go.Proofs.Ytgkjokobbeahfaa

namespace Go.Proofs.Ytgkjokobbeahfaa
open Go.ChangeShapes Go.WideShapes Go.ChangeAt Go.RowKit Go.Joins
open Go.ChangeMaps (open_string shut_string)

namespace RFnExactAddOffer
theorem own : ownKnob Try.prog.godebug = none := by kernel_rfl
theorem laidOut : laidOutB Try.prog = true := by kernel_rfl

set_option maxRecDepth 100000 in
theorem lifted (os : Os) (started : os.Started) (H : Type) (enc : TypeId × Value → H) :
    ReturnsInHanded {} Try.checked os 7 .any (Rows.fnExactAddOfferSpec.pre6 enc Try.prog Try.f7 Rows.fnExactAddOfferRow.domain false) (Rows.fnExactAddOfferSpec.post enc Try.prog Try.f7 false true false false) := by
  refine returnsInHanded_of_change (C := Try.checked) own started (by kernel_rfl) Try.func7
    (ChangeSpec.witness6 (enc := enc) (C := Try.checked) false ⟨#[], #[.slice none 0 0, .agg #[.int .i64 0, .int .i64 0, .slice none 0 0, .int .i64 0, .int .i64 0, .int .i64 0, .slice none 0 0]], []⟩ 8 (by kernel_rfl) (by kernel_rfl) (by kernel_rfl) (by kernel_rfl)) ?_
  intro W base args ds gs before hval0 hW hcnd _
  have hval : ∀ (j : Nat) t v, Try.f7.params[j]? = some t → args[j]? = some v → Value.okWide Try.prog W .any base t v := hval0
  have hW' := hW
  obtain ⟨p, q, hA0, hV, rfl, hfz, hnd⟩ := hW
  have hA : DataW.TrodAll enc Try.prog W 0 (fun _ => true) true Try.f7.params.toList args.toList ds p := hA0
  rw [Try.params7] at hA hval
  obtain ⟨v0, vs0, d0, ds0, p0, q0, hargs, rfl, rfl, h0, r0⟩ := trodAll_cons hA
  obtain ⟨v1, vs1, d1, ds1, p1, q1, rfl, rfl, rfl, h1, r1⟩ := trodAll_cons r0
  obtain ⟨rfl, rfl, rfl⟩ := trodAll_nil r1
  obtain rfl : args = #[v0, v1] := by cases args; simp_all
  obtain ⟨rfl, rfl⟩ := trodVars_none hV
  have k0 := h0
  have lt0 : ∀ x ∈ p0, x.block < W.heap.size := by obtain ⟨m, hm⟩ := k0; exact DataW.trod_lt m _ _ _ hm
  obtain ⟨a0, len0, cap0, rfl⟩ := okWide_slice Try.underlying22 (hval 0 22 v0 rfl rfl)
  obtain ⟨hl0, T0, hR0, hX0⟩ : len0 ≤ maxLen ∧ ∃ T, RowO a0 len0 T W ∧ MaxO len0 T := by
    obtain ⟨fuel, hf⟩ := h0
    exact open_offers (by simpa [Value.cells] using hf)
  have k1 := h1
  have lt1 : ∀ x ∈ p1, x.block < W.heap.size := by obtain ⟨m, hm⟩ := k1; exact DataW.trod_lt m _ _ _ hm
  obtain ⟨pa1, pc1, qa1, qc1, t1, rfl, hp1, hq1, hT1⟩ : ∃ (a0 : Option Addr) (c0 : Nat) (a1 : Option Addr) (c1 : Nat) (t : Oc), v1 = .agg #[.int .i64 t.pe, .int .i64 t.o, .slice a0 t.n0 c0, .int .i64 t.nx, .int .i64 t.md, .int .i64 t.pf, .slice a1 t.n1 c1] ∧ t.n0 ≤ maxLen ∧ t.n1 ≤ maxLen ∧ OfIn a0 a1 t W := by
    obtain ⟨cs, rfl, hsz⟩ := okWide_struct Try.underlying33 (hval 1 33 v1 rfl rfl)
    have h7 : Try.prog.cellsOf 33 = 7 := by kernel_rfl
    obtain ⟨q0, q1, q2, q3, q4, q5, q6, rfl⟩ := arr7 (hsz.trans h7)
    obtain ⟨fuel, hf⟩ := h1
    obtain ⟨pa1, pc1, qa1, qc1, t1, hvs, g0, g1, g2⟩ := open_offer (vs := [q0, q1, q2, q3, q4, q5, q6]) rfl (by simpa [Value.cells] using hf)
    simp at hvs
    obtain ⟨rfl, rfl, rfl, rfl, rfl, rfl, rfl⟩ := hvs
    exact ⟨pa1, pc1, qa1, qc1, t1, rfl, g0, g1, g2⟩
  clear hA0 hval0
  refine (w_addOffer a0 len0 cap0 T0 pa1 pc1 qa1 qc1 t1 W hl0 hX0 hR0 hp1 hq1 hT1).mono fun e W' ⟨he, bel⟩ => ?_
  subst he
  exact ⟨_, rfl, _, _, _, [], _, [], hW', trodAll_mk1 (shut_bool Try.underlying4 _), (trodAll_cons_mk (Below.trod laidOut (by kernel_rfl) (of_decide_eq_true (by kernel_rfl)) k0 bel lt0) (trodAll_cons_mk (Below.trod laidOut (by kernel_rfl) (of_decide_eq_true (by kernel_rfl)) k1 bel lt1) trodAll_mk0)), rfl, bel.frame _, fun h => by cases h⟩

end RFnExactAddOffer

theorem fnExactAddOffer_holds : Rows.FnExactAddOfferSaid :=
  OpenClaim.holds_of_wide 7 Try.f7 rfl rfl rfl rfl rfl rfl rfl ⟨rfl, rfl, rfl, rfl, rfl⟩ rfl rfl rfl rfl rfl (by kernel_rfl) Try.func7 (by kernel_rfl)
    (of_decide_eq_true (by kernel_rfl)) (by unfold Func.isWrapper; first | (rw [if_pos (by decide +kernel)]; kernel_rfl) | (rw [if_neg (by decide +kernel)]; exact ⟨rfl, rfl⟩))
    (fun os started H enc _ => RFnExactAddOffer.lifted os started H enc)

#print axioms fnExactAddOffer_holds
end Go.Proofs.Ytgkjokobbeahfaa
