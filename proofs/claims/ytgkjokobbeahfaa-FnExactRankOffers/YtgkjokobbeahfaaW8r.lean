/- The law on RankOffers: the program answers as the specification, in memory of its own. -/
import Derived.Test.YtgkjokobbeahfaaFlatAttrs2
import Derived.Test.YtgkjokobbeahfaaI8s
import Derived.Test.YtgkjokobbeahfaaS8r
namespace Go.Proofs.Ytgkjokobbeahfaa
open Go.RowKit

/-- The answer v is the list R of numbers, in memory of its own from base on. -/
def AnsI (base : Nat) (v : Value) (R : List Int) (w : World) : Prop := ∃ ga gc, v = .slice ga R.length gc ∧ RowInt ga R.length (fun i => R.getD i 0) w ∧
  (R = [] ∨ ∃ g, ga = some ⟨g, 0, none⟩ ∧ base ≤ g ∧ OutInt g R.length R.length (fun i => R.getD i 0) w)
theorem ans_own {base : Nat} {v : Value} {R : List Int} {w : World} (h : OwnN 3 .i64 base v R w) : AnsI base v R w := by
  obtain ⟨a, cap, rfl, hrow, hc⟩ := ownN_row h
  refine ⟨a, cap, rfl, hrow.int, ?_⟩
  rcases hc with ⟨_, _, h0⟩ | ⟨g, rfl, hg1, _⟩
  · exact .inl h0
  · exact .inr ⟨g, rfl, hg1, ownN_out h⟩
set_option maxRecDepth 100000 in
theorem w_markI0 (a : Option Addr) (cap : Nat) (w : World) :
    Calls Try.prog 30 #[.slice a 0 cap, .int .i64 1] w fun e w' => e = .returned (.int .i64 1) ∧ w' = w := by
  go_enter Try.func30, Try.ntmps30
  go_wp2_with fail
  go_loopw [1, 5] (fun z y wr => z = .int .i64 1 ∧ y = .int .i64 0 ∧ wr = w) (fun _ _ _ => 0)
  case atStart => exact ⟨rfl, rfl, rfl⟩
  case round =>
    obtain ⟨rfl, rfl, rfl⟩ := hrel
    go_wp2_with fail
    go_ret
    exact ⟨rfl, rfl⟩
theorem w_markAnsI (base : Nat) (ga : Option Addr) (gc : Nat) (R : List Int) (w : World) (hn : R.length ≤ 1048576) (hb : base ≤ w.heap.size)
    (hA : R = [] ∨ ∃ g, ga = some ⟨g, 0, none⟩ ∧ base ≤ g ∧ OutInt g R.length R.length (fun i => R.getD i 0) w) :
    Calls Try.prog 30 #[.slice ga R.length gc, .int .i64 1] w fun e w' => e = .returned (.int .i64 (1 + (R.length : Int))) ∧ RowInt ga R.length (fun i => 1 + (i : Int)) w' ∧ Below base w w' := by
  rcases hA with rfl | ⟨g, rfl, hg, hO⟩
  · refine (w_markI0 ga gc w).mono ?_
    rintro e w' ⟨rfl, rfl⟩
    exact ⟨rfl, fun i hi => absurd hi (Nat.not_lt_zero _), Below.refl _ _⟩
  · refine (w_markIntS g R.length gc _ 1 w (by omega) (by omega) (by omega) hO).mono ?_
    rintro e w' ⟨rfl, ho, hO'⟩
    exact ⟨rfl, hO'.row, ⟨ho.1, ho.2.1, ho.2.2.1, ho.2.2.2.1, fun k hk => ho.2.2.2.2 k (by omega) (by omega)⟩⟩
set_option maxRecDepth 100000 in
set_option maxHeartbeats 6400000 in
theorem w_rankOffers (a : Option Addr) (n c : Nat) (T : Nat → Oc) (w : World) (hn : n ≤ maxLen) (hx : MaxO n T) (hR : RowO a n T w) :
    Calls Try.prog 6 #[.slice a n c] w fun e w' => e = .returned (.bool true) ∧ Below w.heap.size w w' := by
  have SZ := hide (fun w R => w_szOfferS a n c T 1048576 w hn hx (by omega) (by omega) R)
  by_cases hs : (n : Int) + (totO T n : Int) ≤ 1048576
  · rw [if_pos hs] at SZ
    have hlt : ¬ (1048576 - (n : Int) - (totO T n : Int) < 0) := by omega
    have hn1 : n ≤ 1048576 := by omega
    have ht1 : totO T n ≤ 1048576 := by omega
    have hl : LowO n T := lowO_of (by omega)
    have TP := hide (fun w R => w_toOfferS a n c T w hn1 hl R)
    have SG : Hid (∀ (c cap : Nat) (X Y : Nat → Nat) (hi : Nat) (w : World), RowOO c n X Y hi T w → Calls Try.prog 26 #[.slice (some ⟨c, 0, none⟩) n cap] w fun r w' => ∃ a' c', r = .returned (.tuple #[.slice a' (rkL (lsO n T)).length c', .bool (rkK (lsO n T))]) ∧ RowN .i64 a' (rkL (lsO n T)) w' ∧ Below w.heap.size w w') := by
      intro c cap X Y hi w ho
      obtain ⟨L, h1, h2, h3, h4⟩ := rowOO_list ho hl
      have h := s_rank c 0 L cap w (by omega) h3 h4 _ _ rfl rfl
      rw [h1, h2] at h
      exact h
    have IG : Hid (∀ (c cap : Nat) (X Y : Nat → Nat) (hi : Nat) (w : World), RowOO c n X Y hi T w → Calls Try.prog 27 #[.slice (some ⟨c, 0, none⟩) n cap] w fun r w' => ∃ v, r = .returned (.tuple #[v, .bool (rkK (lsO n T))]) ∧ AnsI w.heap.size v (rkL (lsO n T)) w' ∧ Below w.heap.size w w') := by
      intro c cap X Y hi w ho
      obtain ⟨L, h1, h2, h3, h4⟩ := rowOO_list ho hl
      have h := i_rank c 0 L cap w (by omega) h3 h4
      rw [h1, h2] at h
      refine h.mono ?_
      rintro r w' ⟨v, rfl, hO, hb⟩
      exact ⟨v, rfl, ans_own hO, hb⟩
    have hDn : (rkL (lsO n T)).length ≤ 1048576 := by
      have h1 := rk_len (lsO n T)
      rw [lsO_len] at h1
      omega
    have E := hide (fun a a' c c' w R Q => w_eqOfferS a a' n c c' T w hn1 hl R Q)
    have ED := hide (fun a a' c c' w R Q => w_eqIntS a a' (rkL (lsO n T)).length c c' (fun i => (rkL (lsO n T)).getD i 0) w (by omega) R Q)
    have MK := hide (fun c cap X Y K L w hs hR => w_markOfferS c n cap X Y K L T w hn1 ht1 hs hR)
    have MA := hide (fun base ga gc w hb hA => w_markAnsI base ga gc (rkL (lsO n T)) w hDn hb hA)
    have HA := hide (fun a cap w R => w_heldIntS a (rkL (lsO n T)).length cap 1 w (by omega) (by omega) (by omega) R)
    generalize rkK (lsO n T) = r1 at SG IG
    generalize rkL (lsO n T) = D at *
    have k1 : (r1 != r1) = false := by simp
    have hkm : ¬ ((kmO T n : Int) < 0) := by omega
    have hkd : ¬ ((1 + (D.length : Int)) < 0) := by omega
    have hke : ((1 + (D.length : Int)) != (1 + (D.length : Int))) = false := by simp
    generalize kmO T n = kn at *
    generalize totO T n = q at *
    have hDq : (D.length : Int) ≤ 1048576 := by omega
    clear hn hx hs hn1 ht1 hl hDn
    go_enter Try.func6, Try.ntmps6
    go_wp2_with fail
    refine (SZ.out _ hR).mono ?_
    rintro e w0 ⟨rfl, d0⟩
    go_wp2_with fail
    refine (TP.out _ (hR.below d0)).mono ?_
    rintro e w1 ⟨rfl, ⟨X1, Y1, o1⟩, _, b1⟩
    have d1 := d0.trans (b1.mono d0.size)
    clear b1 d0
    go_wp2_with fail
    refine (SG.out _ _ _ _ _ _ o1).mono ?_
    rintro e w2 ⟨wa, wc, rfl, RW, b2⟩
    have RW := RW.int
    have d2 := d1.trans (b2.mono d1.size)
    clear b2 o1 d1
    go_wp2_with fail
    refine (TP.out _ (hR.below d2)).mono ?_
    rintro e w3 ⟨rfl, ⟨X3, Y3, o3⟩, F3, b3⟩
    have e3 : Below w2.heap.size w2 w3 := b3
    have hc3 : w2.heap.size < w3.heap.size := F3.1
    have d3 := d2.trans (b3.mono d2.size)
    clear b3
    go_wp2_with fail
    refine (IG.out _ _ _ _ _ _ o3).mono ?_
    rintro e w4 ⟨v, rfl, hA, b4⟩
    obtain ⟨ga, gc, rfl, RG, hA⟩ := hA
    have hA := hide hA
    have hw34 := b4.size
    have e4 := e3.trans (b4.mono e3.size)
    have d4 := d3.trans (b4.mono d3.size)
    replace o3 := o3.below b4
    replace F3 := F3.below b4
    clear b4 d3
    go_wp2_with fail
    refine (ED.out _ _ _ _ _ RG (RW.below e4)).mono ?_
    rintro e w5 ⟨rfl, b5⟩
    have e5 := e4.trans (b5.mono e4.size)
    have d5 := d4.trans (b5.mono d4.size)
    have g5 : Below w4.heap.size w4 w5 := b5
    replace o3 := o3.below b5
    replace F3 := F3.below b5
    clear b5 e4 d4
    go_wp2_with fail
    refine (TP.out _ (hR.below d5)).mono ?_
    rintro e w6 ⟨rfl, ⟨X6, Y6, o6⟩, _, b6⟩
    have e6 := e5.trans (b6.mono e5.size)
    have d6 := d5.trans (b6.mono d5.size)
    have g6 := g5.trans (b6.mono g5.size)
    replace o3 := o3.below b6
    replace F3 := F3.below b6
    clear b6 e5 d5 g5
    go_wp2_with fail
    refine (E.out _ _ _ _ _ o3.row o6.row).mono ?_
    rintro e w7 ⟨rfl, b7⟩
    have e7 := e6.trans (b7.mono e6.size)
    have d7 := d6.trans (b7.mono d6.size)
    have g7 := g6.trans (b7.mono g6.size)
    replace o3 := o3.below b7
    replace F3 := F3.below b7
    clear b7 e6 d6 g6 o6
    obtain ⟨RA3, SP3, BK3⟩ := o3.own F3
    go_wp2_with fail
    refine (MK.out _ _ _ _ _ _ _ SP3 RA3).mono ?_
    rintro e w8 ⟨rfl, _, OS⟩
    have f8 : Below w2.heap.size w7 w8 := OS.below (fun k hk => by rcases BK3 k hk with h | h <;> omega) e7.size
    have e8 := e7.trans f8
    have d8 := d7.trans (f8.mono d2.size)
    have hA8 : Hid (D = [] ∨ ∃ g, ga = some ⟨g, 0, none⟩ ∧ w3.heap.size ≤ g ∧ OutInt g D.length D.length (fun i => D.getD i 0) w8) := by
      rcases hA.out with h | ⟨g, h1, h2, h3⟩
      · exact .inl h
      · refine .inr ⟨g, h1, h2, (h3.below g7).onlyS OS ?_⟩
        intro hb
        rcases BK3 g hb with h | h <;> omega
    have RG8 : Hid (RowInt ga D.length (fun i => D.getD i 0) w8) := by
      rcases hA8.out with h | ⟨g, h1, _, h2⟩
      · rw [Hid, h]; exact fun i hi => absurd hi (Nat.not_lt_zero _)
      · rw [Hid, h1]; exact h2.row
    have hs8 : w3.heap.size ≤ w8.heap.size := Nat.le_trans (Nat.le_trans hw34 g7.size) f8.size
    clear RA3 SP3 BK3 OS o3 F3 hA RG f8 e7 d7 g7
    go_wp2_with fail
    refine (ED.out _ _ _ _ _ RG8.out (RW.below e8)).mono ?_
    rintro e w9 ⟨rfl, b9⟩
    have e9 := e8.trans (b9.mono e8.size)
    have d9 := d8.trans (b9.mono d8.size)
    have hA9 : Hid (D = [] ∨ ∃ g, ga = some ⟨g, 0, none⟩ ∧ w3.heap.size ≤ g ∧ OutInt g D.length D.length (fun i => D.getD i 0) w9) := by
      rcases hA8.out with h | ⟨g, h1, h2, h3⟩
      · exact .inl h
      · exact .inr ⟨g, h1, h2, h3.below b9⟩
    have hs9 := Nat.le_trans hs8 b9.size
    clear hA8 RG8 b9 e8 d8 hs8
    go_wp2_with fail
    refine (MA.out w3.heap.size _ _ _ hs9 hA9.out).mono ?_
    rintro e w10 ⟨rfl, RH, b10⟩
    have e10 := e9.trans (b10.mono e3.size)
    have d10 := d9.trans (b10.mono (Nat.le_trans d2.size e3.size))
    clear hA9 hs9 b10 e9 d9
    go_wp2_with fail
    refine (HA.out _ _ _ RH).mono ?_
    rintro e w11 ⟨rfl, rfl⟩
    have e11 := e10
    have d11 := d10
    clear e10 d10
    go_wp2_with fail
    refine (TP.out _ (hR.below d11)).mono ?_
    rintro e w12 ⟨rfl, ⟨X12, Y12, o12⟩, _, b12⟩
    have e12 := e11.trans (b12.mono e11.size)
    have d12 := d11.trans (b12.mono d11.size)
    replace RH := RH.below b12
    clear b12 e11 d11
    go_wp2_with fail
    refine (IG.out _ _ _ _ _ _ o12).mono ?_
    rintro e w13 ⟨v2, rfl, hB, b13⟩
    obtain ⟨ha, hc, rfl, RB, _⟩ := hB
    have e13 := e12.trans (b13.mono e12.size)
    have d13 := d12.trans (b13.mono d12.size)
    replace RH := RH.below b13
    clear b13 e12 d12 o12
    go_wp2_with fail
    refine (ED.out _ _ _ _ _ RB (RW.below e13)).mono ?_
    rintro e w14 ⟨rfl, b14⟩
    have d14 := d13.trans (b14.mono d13.size)
    replace RH := RH.below b14
    clear b14 e13 d13 RB
    go_wp2_with fail
    refine (HA.out _ _ _ RH).mono ?_
    rintro e w15 ⟨rfl, rfl⟩
    have d15 := d14
    go_wp2_with fail
    go_ret
    exact ⟨rfl, d15⟩
  · rw [if_neg hs] at SZ
    clear hs hn hx
    go_enter Try.func6, Try.ntmps6
    go_wp2_with fail
    refine (SZ.out _ hR).mono ?_
    rintro e w0 ⟨rfl, d0⟩
    go_wp2_with fail
    go_ret
    exact ⟨rfl, d0⟩
end Go.Proofs.Ytgkjokobbeahfaa
