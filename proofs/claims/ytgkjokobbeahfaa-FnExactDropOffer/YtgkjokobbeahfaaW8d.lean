/- The law on DropOffer: the program answers as the specification, in memory of its own. -/
import Derived.Test.YtgkjokobbeahfaaAns8
import Derived.Test.YtgkjokobbeahfaaI8d
import Derived.Test.YtgkjokobbeahfaaS8d
namespace Go.Proofs.Ytgkjokobbeahfaa
open Go.RowKit

theorem tot_sub {L M : List Oc} (h : M.Sublist L) : totO (TL M) M.length ≤ totO (TL L) L.length := by
  have key : ∀ L : List Oc, totO (TL L) L.length = (L.map Oc.tot).sum := by
    intro L
    have : ∀ k, k ≤ L.length → totO (TL L) k = ((L.take k).map Oc.tot).sum := by
      intro k
      induction k with
      | zero => intro _; rfl
      | succ k ih =>
        intro hk
        have e : totO (TL L) (k + 1) = totO (TL L) k + (TL L k).tot := rfl
        rw [e, ih (by omega), TL_eq (show k < L.length by omega), List.take_add_one, List.getElem?_eq_getElem (show k < L.length by omega)]
        simp only [Option.toList_some, List.map_append, List.map_cons, List.map_nil, List.sum_append, List.sum_cons, List.sum_nil, Nat.add_zero]
    rw [this L.length (Nat.le_refl _), List.take_length]
  rw [key, key]
  induction h with
  | slnil => exact Nat.le_refl _
  | cons a _ ih => simp only [List.map_cons, List.sum_cons]; omega
  | cons_cons a _ ih => simp only [List.map_cons, List.sum_cons]; omega
theorem tot_ls (n : Nat) (T : Nat → Oc) : totO (TL (lsO n T)) (lsO n T).length = totO T n := by
  rw [lsO_len]
  have : ∀ k, k ≤ n → totO (TL (lsO n T)) k = totO T k := by
    intro k
    induction k with
    | zero => intro _; rfl
    | succ k ih =>
      intro hk
      have e1 : totO (TL (lsO n T)) (k + 1) = totO (TL (lsO n T)) k + (TL (lsO n T) k).tot := rfl
      have e2 : totO T (k + 1) = totO T k + (T k).tot := rfl
      rw [e1, e2, ih (by omega), lsO_at T (by omega)]
  exact this n (Nat.le_refl _)
theorem dlO_sub (D : List Oc) (x : Int) : (dlO D x).Sublist D := by
  unfold dlO
  split
  · exact List.filter_sublist
  · exact List.nil_sublist _
set_option maxRecDepth 100000 in
set_option maxHeartbeats 6400000 in
theorem w_dropOffer (a : Option Addr) (n c : Nat) (T : Nat → Oc) (x : Int) (w : World) (hn : n ≤ maxLen) (hx : MaxO n T) (hR : RowO a n T w) :
    Calls Try.prog 8 #[.slice a n c, .int .i64 x] w fun e w' => e = .returned (.bool true) ∧ Below w.heap.size w w' := by
  have SZ := hide (fun w R => w_szOfferS a n c T 1048576 w hn hx (by omega) (by omega) R)
  by_cases hs : (n : Int) + (totO T n : Int) ≤ 1048576
  · rw [if_pos hs] at SZ
    have hlt : ¬ (1048576 - (n : Int) - (totO T n : Int) < 0) := by omega
    have hn1 : n ≤ 1048576 := by omega
    have ht1 : totO T n ≤ 1048576 := by omega
    have hl : LowO n T := lowO_of (by omega)
    have TP := hide (fun w R => w_toOfferS a n c T w hn1 hl R)
    have SG : Hid (∀ (c cap : Nat) (X Y : Nat → Nat) (hi : Nat) (w : World), RowOO c n X Y hi T w → Calls Try.prog 36 #[.slice (some ⟨c, 0, none⟩) n cap, .int .i64 x] w fun r w' => ∃ a' c', r = .returned (.tuple #[.slice a' (dlO (lsO n T) x).length c', .bool (dkO (lsO n T) x)]) ∧ RowO a' (dlO (lsO n T) x).length (TL (dlO (lsO n T) x)) w' ∧ Below w.heap.size w w') := by
      intro c cap X Y hi w ho
      obtain ⟨L, h1, h2, h3, h4⟩ := rowOO_list ho hl
      have h := s_dropOffer (some ⟨c, 0, none⟩) L cap x w (by omega) h3 h4
      rw [h1, h2] at h
      exact h
    have IG : Hid (∀ (c cap : Nat) (X Y : Nat → Nat) (hi : Nat) (w : World), RowOO c n X Y hi T w → Calls Try.prog 37 #[.slice (some ⟨c, 0, none⟩) n cap, .int .i64 x] w fun r w' => ∃ v, r = .returned (.tuple #[v, .bool (dkO (lsO n T) x)]) ∧ AnsO w.heap.size v (dlO (lsO n T) x) w' ∧ Below w.heap.size w w') := by
      intro c cap X Y hi w ho
      obtain ⟨L, h1, h2, h3, h4⟩ := rowOO_list ho hl
      have h := i_dropOffer (some ⟨c, 0, none⟩) L cap x w (by omega) h3 h4
      rw [h1, h2] at h
      refine h.mono ?_
      rintro r w' ⟨v, M, rfl, hM, hLs, hb⟩
      exact ⟨v, rfl, hLs.ans hM, hb⟩
    have hDn : (dlO (lsO n T) x).length ≤ 1048576 := by
      have h1 := (dlO_sub (lsO n T) x).length_le
      rw [lsO_len] at h1
      omega
    have hDt : totO (TL (dlO (lsO n T) x)) (dlO (lsO n T) x).length ≤ 1048576 := by
      have h1 := tot_sub (dlO_sub (lsO n T) x)
      rw [tot_ls] at h1
      omega
    have E := hide (fun a a' c c' w R Q => w_eqOfferS a a' n c c' T w hn1 hl R Q)
    have hDl : LowO (dlO (lsO n T) x).length (TL (dlO (lsO n T) x)) := lowO_of hDt
    have ED := hide (fun a a' c c' w R Q => w_eqOfferS a a' (dlO (lsO n T) x).length c c' (TL (dlO (lsO n T) x)) w hDn hDl R Q)
    have MK := hide (fun c cap X Y K L w hs hR => w_markOfferS c n cap X Y K L T w hn1 ht1 hs hR)
    have MA := hide (fun base ga gc w hb hA => w_markAns base ga gc (dlO (lsO n T) x) w hDn hDt hb hA)
    have HA := hide (fun a cap w R => w_heldOfferS a (dlO (lsO n T) x).length cap (TL (dlO (lsO n T) x)) w hDn hDt R)
    generalize dkO (lsO n T) x = r1 at SG IG
    generalize dlO (lsO n T) x = D at *
    have k1 : (r1 != r1) = false := by simp
    have hkm : ¬ ((kmO T n : Int) < 0) := by omega
    have hkd : ¬ ((kmO (TL D) D.length : Int) < 0) := by omega
    have hke : ((kmO (TL D) D.length : Int) != (kmO (TL D) D.length : Int)) = false := by simp
    generalize kmO T n = kn at *
    generalize kmO (TL D) D.length = kd at *
    generalize halfO (TL D) D.length = HD at *
    have hDe : Hid (D.length ≤ 1048576) := hDn
    generalize totO T n = q at *
    clear hn hx hs hn1 ht1 hl hDn hDt hDl
    go_enter Try.func8, Try.ntmps8
    go_wp2_with fail
    refine (SZ.out _ hR).mono ?_
    rintro e w0 ⟨rfl, d0⟩
    go_wp2_with fail
    refine (TP.out _ (hR.below d0)).mono ?_
    rintro e w1 ⟨rfl, ⟨X1, Y1, o1⟩, _, b1⟩
    have d1 := d0.trans (b1.mono d0.size)
    clear b1 d0
    go_wp2_with fail
    refine (SG.out _ _ _ _ _ _ o1).mono ?_
    rintro e w2 ⟨wa, wc, rfl, RW, b2⟩
    have d2 := d1.trans (b2.mono d1.size)
    clear b2 o1 d1
    go_wp2_with fail
    refine (TP.out _ (hR.below d2)).mono ?_
    rintro e w3 ⟨rfl, ⟨X3, Y3, o3⟩, F3, b3⟩
    have e3 : Below w2.heap.size w2 w3 := b3
    have hc3 : w2.heap.size < w3.heap.size := F3.1
    have d3 := d2.trans (b3.mono d2.size)
    clear b3
    go_wp2_with fail
    refine (IG.out _ _ _ _ _ _ o3).mono ?_
    rintro e w4 ⟨v, rfl, hA, b4⟩
    obtain ⟨ga, gc, rfl, RG, hA⟩ := hA
    have hA := hide hA
    have hw34 := b4.size
    have e4 := e3.trans (b4.mono e3.size)
    have d4 := d3.trans (b4.mono d3.size)
    replace o3 := o3.below b4
    replace F3 := F3.below b4
    clear b4 d3
    go_wp2_with fail
    refine (ED.out _ _ _ _ _ RG (RW.below e4)).mono ?_
    rintro e w5 ⟨rfl, b5⟩
    have e5 := e4.trans (b5.mono e4.size)
    have d5 := d4.trans (b5.mono d4.size)
    have g5 : Below w4.heap.size w4 w5 := b5
    replace o3 := o3.below b5
    replace F3 := F3.below b5
    clear b5 e4 d4
    go_wp2_with fail
    refine (TP.out _ (hR.below d5)).mono ?_
    rintro e w6 ⟨rfl, ⟨X6, Y6, o6⟩, _, b6⟩
    have e6 := e5.trans (b6.mono e5.size)
    have d6 := d5.trans (b6.mono d5.size)
    have g6 := g5.trans (b6.mono g5.size)
    replace o3 := o3.below b6
    replace F3 := F3.below b6
    clear b6 e5 d5 g5
    go_wp2_with fail
    refine (E.out _ _ _ _ _ o3.row o6.row).mono ?_
    rintro e w7 ⟨rfl, b7⟩
    have e7 := e6.trans (b7.mono e6.size)
    have d7 := d6.trans (b7.mono d6.size)
    have g7 := g6.trans (b7.mono g6.size)
    replace o3 := o3.below b7
    replace F3 := F3.below b7
    clear b7 e6 d6 g6 o6
    obtain ⟨RA3, SP3, BK3⟩ := o3.own F3
    go_wp2_with fail
    refine (MK.out _ _ _ _ _ _ _ SP3 RA3).mono ?_
    rintro e w8 ⟨rfl, _, OS⟩
    have f8 : Below w2.heap.size w7 w8 := OS.below (fun k hk => by rcases BK3 k hk with h | h <;> omega) e7.size
    have e8 := e7.trans f8
    have d8 := d7.trans (f8.mono d2.size)
    have hA8 : Hid (D = [] ∨ ∃ g X Y K L, ga = some ⟨g, 0, none⟩ ∧ RowOA g D.length X Y K L (TL D) w8 ∧ SepO g D.length X Y ∧ ∀ k, BlkO g D.length X Y k → w3.heap.size ≤ k) := by
      rcases hA.out with h | ⟨g, X, Y, K, L, h1, h2, h3, h4⟩
      · exact .inl h
      · refine .inr ⟨g, X, Y, K, L, h1, (h2.below g7).onlyS OS ?_, h3, h4⟩
        intro k hk hb
        have := h4 k hk
        rcases BK3 k hb with h | h <;> omega
    have RG8 : Hid (RowO ga D.length (TL D) w8) := by
      rcases hA8.out with h | ⟨g, X, Y, K, L, h1, h2, _⟩
      · rw [Hid, h]; exact fun i hi => absurd hi (Nat.not_lt_zero _)
      · rw [Hid, h1]; exact h2.row
    have hs8 : w3.heap.size ≤ w8.heap.size := Nat.le_trans (Nat.le_trans hw34 g7.size) f8.size
    clear RA3 SP3 BK3 OS o3 F3 hA RG f8 e7 d7 g7
    go_wp2_with fail
    refine (ED.out _ _ _ _ _ RG8.out (RW.below e8)).mono ?_
    rintro e w9 ⟨rfl, b9⟩
    have e9 := e8.trans (b9.mono e8.size)
    have d9 := d8.trans (b9.mono d8.size)
    have hA9 : Hid (D = [] ∨ ∃ g X Y K L, ga = some ⟨g, 0, none⟩ ∧ RowOA g D.length X Y K L (TL D) w9 ∧ SepO g D.length X Y ∧ ∀ k, BlkO g D.length X Y k → w3.heap.size ≤ k) := by
      rcases hA8.out with h | ⟨g, X, Y, K, L, h1, h2, h3, h4⟩
      · exact .inl h
      · exact .inr ⟨g, X, Y, K, L, h1, h2.below b9, h3, h4⟩
    have hs9 := Nat.le_trans hs8 b9.size
    clear hA8 RG8 b9 e8 d8 hs8
    go_wp2_with fail
    refine (MA.out w3.heap.size _ _ _ hs9 hA9.out).mono ?_
    rintro e w10 ⟨rfl, RH, b10⟩
    have e10 := e9.trans (b10.mono e3.size)
    have d10 := d9.trans (b10.mono (Nat.le_trans d2.size e3.size))
    clear hA9 hs9 b10 e9 d9
    go_wp2_with fail
    refine (HA.out _ _ _ RH).mono ?_
    rintro e w11 ⟨rfl, b11⟩
    have e11 := e10.trans (b11.mono e10.size)
    have d11 := d10.trans (b11.mono d10.size)
    replace RH := RH.below b11
    clear b11 e10 d10
    go_wp2_with fail
    refine (TP.out _ (hR.below d11)).mono ?_
    rintro e w12 ⟨rfl, ⟨X12, Y12, o12⟩, _, b12⟩
    have e12 := e11.trans (b12.mono e11.size)
    have d12 := d11.trans (b12.mono d11.size)
    replace RH := RH.below b12
    clear b12 e11 d11
    go_wp2_with fail
    refine (IG.out _ _ _ _ _ _ o12).mono ?_
    rintro e w13 ⟨v2, rfl, hB, b13⟩
    obtain ⟨ha, hc, rfl, RB, _⟩ := hB
    have e13 := e12.trans (b13.mono e12.size)
    have d13 := d12.trans (b13.mono d12.size)
    replace RH := RH.below b13
    clear b13 e12 d12 o12
    go_wp2_with fail
    refine (ED.out _ _ _ _ _ RB (RW.below e13)).mono ?_
    rintro e w14 ⟨rfl, b14⟩
    have d14 := d13.trans (b14.mono d13.size)
    replace RH := RH.below b14
    clear b14 e13 d13 RB
    go_wp2_with fail
    refine (HA.out _ _ _ RH).mono ?_
    rintro e w15 ⟨rfl, b15⟩
    have d15 := d14.trans (b15.mono d14.size)
    go_wp2_with fail
    go_ret
    exact ⟨rfl, d15⟩
  · rw [if_neg hs] at SZ
    clear hs hn hx
    go_enter Try.func8, Try.ntmps8
    go_wp2_with fail
    refine (SZ.out _ hR).mono ?_
    rintro e w0 ⟨rfl, d0⟩
    go_wp2_with fail
    go_ret
    exact ⟨rfl, d0⟩
end Go.Proofs.Ytgkjokobbeahfaa
