/- Lists of lists of numbers as the answer: marked, and looked at again. -/
import Derived.Test.YtcnlabedlcmilaaSp10
import Derived.Test.YtcnlabedlcmilaaS10o
import Derived.Test.YtcnlabedlcmilaaI10o
namespace Go.Proofs.Ytcnlabedlcmilaa
open Go.RowKit

/-- n lists of N numbers at va, each in a block of its own from base on; they may be written. -/
def ALL (N base : Nat) (va : Option Addr) (n : Nat) (X C : Nat → Nat) (F : Nat → Nat → Int) (w : World) : Prop := n = 0 ∨ ∃ g, va = some ⟨g, 0, none⟩ ∧ base ≤ g ∧ g < w.heap.size ∧ (∀ i, i < n → w.cell? ⟨g, i, none⟩ = some (.slice (some ⟨X i, 0, none⟩) N (C i)) ∧ base ≤ X i ∧ X i ≠ g ∧ OutInt (X i) N N (F i) w) ∧ ∀ i j, i < n → j < n → i ≠ j → X i ≠ X j
theorem ALL.below {N base : Nat} {va : Option Addr} {n : Nat} {X C : Nat → Nat} {F : Nat → Nat → Int} {w w' : World} (h : ALL N base va n X C F w) (b : Below w.heap.size w w') : ALL N base va n X C F w' := by
  rcases h with h | ⟨g, h1, h2, h3, h4, h5⟩
  · exact .inl h
  · exact .inr ⟨g, h1, h2, Nat.lt_of_lt_of_le h3 b.size, fun i hi => ⟨((bcell b).1 _ _ h3).trans (h4 i hi).1, (h4 i hi).2.1, (h4 i hi).2.2.1, (h4 i hi).2.2.2.below b⟩, h5⟩
theorem ALL.onlyS {P : Nat → Prop} {N base : Nat} {va : Option Addr} {n : Nat} {X C : Nat → Nat} {F : Nat → Nat → Int} {w w' : World} (h : ALL N base va n X C F w) (b : OnlyS P w w') (hn : ∀ k, base ≤ k → ¬ P k) : ALL N base va n X C F w' := by
  rcases h with h | ⟨g, h1, h2, h3, h4, h5⟩
  · exact .inl h
  · exact .inr ⟨g, h1, h2, Nat.lt_of_lt_of_le h3 b.2.2.2.1, fun i hi => ⟨(b.cell h3 (hn g h2)).trans (h4 i hi).1, (h4 i hi).2.1, (h4 i hi).2.2.1, (h4 i hi).2.2.2.onlyS b (hn _ (h4 i hi).2.1)⟩, h5⟩
theorem ALL.row {N base : Nat} {va : Option Addr} {n : Nat} {X C : Nat → Nat} {F : Nat → Nat → Int} {w : World} (h : ALL N base va n X C F w) : RowLL va n (fun i => ⟨N, F i⟩) w := by
  rcases h with h | ⟨g, rfl, h2, h3, h4, _⟩
  · intro i hi; omega
  · intro i hi
    exact ⟨g, 0, _, _, rfl, h3, by rw [Nat.zero_add]; exact (h4 i hi).1, (h4 i hi).2.2.2.row⟩
/-- k times N. -/
def km (N k : Nat) : Nat := k * N
theorem km_succ (N k : Nat) : (km N k : Int) + (N : Int) = (km N (k + 1) : Int) := by unfold km; rw [Nat.add_mul, Nat.one_mul]; omega
theorem km_zero (N : Nat) : km N 0 = 0 := Nat.zero_mul N
theorem km_le {N k : Nat} (hk : k ≤ 16807) (hN : N ≤ 5) : km N k ≤ 100000 := by
  have := Nat.mul_le_mul hk hN
  unfold km
  omega
/-- The numbers of a list of lists. -/
def atR (R : List (List Int)) (i j : Nat) : Int := (R.getD i []).getD j 0
theorem all_of {N base : Nat} {v : Value} {L : List El} {R : List (List Int)} {w : World} (h : LsL N base v L w) (hv : vcz N L = R) : ∃ va cap X C, v = .slice va R.length cap ∧ ALL N base va R.length X C (atR R) w := by
  have hl : R.length = L.length := by rw [← hv, vcz_len]
  obtain ⟨va, cap, rfl, row, hc⟩ := ownW_row h.1
  refine ⟨va, cap, fun i => (L.getD i ⟨0, 0, fun _ => 0⟩).x, fun i => (L.getD i ⟨0, 0, fun _ => 0⟩).cap, by rw [hl], ?_⟩
  rcases hc with ⟨_, _, h0⟩ | ⟨g, rfl, hg, hgl, _⟩
  · exact .inl (by rw [hl]; exact h0)
  · have hat : ∀ i, i < R.length → ∃ e, L[i]? = some e ∧ L.getD i ⟨0, 0, fun _ => 0⟩ = e ∧ e ∈ L := fun i hi => by
      have hi' : i < L.length := by omega
      exact ⟨L[i], List.getElem?_eq_getElem hi', by simp [List.getD_eq_getElem?_getD, List.getElem?_eq_getElem hi'], List.getElem_mem hi'⟩
    refine .inr ⟨g, rfl, hg, hgl, fun i hi => ?_, fun i j hi hj hne => ?_⟩
    · obtain ⟨e, h1, h2, h3⟩ := hat i hi
      simp only [h2]
      obtain ⟨h4, h5⟩ := h.2.1 e h3
      have hcell : (L.map (elc N))[i]? = some (elc N e) := by rw [List.getElem?_map, h1]; rfl
      obtain ⟨b, off, ha, _, hc⟩ := row i _ hcell
      simp only [Option.some.injEq, Addr.mk.injEq, and_true] at ha
      obtain ⟨rfl, rfl⟩ := ha
      rw [Nat.zero_add] at hc
      refine ⟨hc, h4, h.2.2.1 g rfl e h3, h5.congr (fun j hj => ?_)⟩
      unfold atR
      have : R.getD i [] = lsI N e.f := by
        rw [← hv]
        unfold vcz
        rw [List.getD_eq_getElem?_getD, List.getElem?_map, h1]
        rfl
      rw [this, lsI_at hj]
    · obtain ⟨e, h1, h2, _⟩ := hat i hi
      obtain ⟨e', h1', h2', _⟩ := hat j hj
      simp only [h2, h2']
      have hp := List.pairwise_iff_getElem.1 h.2.2.2
      have hi' : i < L.length := by omega
      have hj' : j < L.length := by omega
      rw [List.getElem?_eq_getElem hi'] at h1
      rw [List.getElem?_eq_getElem hj'] at h1'
      have e1 : L[i] = e := by simpa using h1
      have e2 : L[j] = e' := by simpa using h1'
      rcases Nat.lt_or_gt_of_ne hne with hlt | hlt
      · have := hp i j hi' hj' hlt
        rw [e1, e2] at this
        exact this
      · have := hp j i hj' hi' hlt
        rw [e1, e2] at this
        exact fun e => this e.symm
set_option maxRecDepth 100000 in
set_option maxHeartbeats 1600000 in
theorem w_markALL (N base : Nat) (va : Option Addr) (n cap : Nat) (X C : Nat → Nat) (F : Nat → Nat → Int) (w : World) (hn : n ≤ 16807) (hN : n = 0 ∨ N ≤ 5) (_hb : base ≤ w.heap.size) (hA : ALL N base va n X C F w) :
    Calls Try.prog 36 #[.slice va n cap, .int .i64 1] w fun e w' => e = .returned (.int .i64 (1 + (km N n : Int))) ∧ RowLL va n (fun i => ⟨N, fun j => (1 + (km N i : Int)) + (j : Int)⟩) w' ∧ Below base w w' := by
  by_cases h0 : n = 0
  · subst h0
    rw [km_zero]
    go_enter Try.func36, Try.ntmps36
    go_wp2_with fail
    go_loop [1, 5] (fun kk i => i = .int .i64 0 ∧ kk = .int .i64 1) (fun _ _ => 0)
    case atStart => exact ⟨rfl, rfl⟩
    case round =>
      obtain ⟨rfl, rfl⟩ := hrel
      go_wp2_with fail
      go_ret
      exact ⟨rfl, fun i hi => absurd hi (Nat.not_lt_zero _), Below.refl _ _⟩
  · have hN5 : N ≤ 5 := by omega
    obtain ⟨g, rfl, hg, hgl, hc, hx⟩ : ∃ g, va = some ⟨g, 0, none⟩ ∧ base ≤ g ∧ g < w.heap.size ∧ (∀ i, i < n → w.cell? ⟨g, i, none⟩ = some (.slice (some ⟨X i, 0, none⟩) N (C i)) ∧ base ≤ X i ∧ X i ≠ g ∧ OutInt (X i) N N (F i) w) ∧ ∀ i j, i < n → j < n → i ≠ j → X i ≠ X j := by
      rcases hA with h | h
      · exact absurd h h0
      · exact h
    have MI := hide (fun x cap f k0 w h0 h1 O => w_markIntS x N cap f k0 w (show N ≤ 4294967296 by omega) h0 h1 O)
    go_enter Try.func36, Try.ntmps36
    go_wp2_with fail
    go_loopw [1, 5] (fun x y wr => ∃ k : Nat, x = .int .i64 (1 + (km N k : Int)) ∧ y = .int .i64 k ∧ k ≤ n ∧ Hid (∀ i, i < n → wr.cell? ⟨g, i, none⟩ = some (.slice (some ⟨X i, 0, none⟩) N (C i)) ∧ (i < k → OutInt (X i) N N (fun j => (1 + (km N i : Int)) + (j : Int)) wr) ∧ (k ≤ i → OutInt (X i) N N (F i) wr)) ∧ Below base w wr) (fun _ y _ => n - (intOf y).toNat)
    case atStart => exact ⟨0, by rw [km_zero]; rfl, rfl, Nat.zero_le _, fun i hi => ⟨(hc i hi).1, fun h => absurd h (Nat.not_lt_zero _), fun _ => (hc i hi).2.2.2⟩, Below.refl _ _⟩
    case round =>
      obtain ⟨k, rfl, rfl, hk, hall, hd⟩ := hrel
      by_cases hlt : k < n
      · obtain ⟨u0, _, o1⟩ := hall.out k hlt
        have o1 := o1 (Nat.le_refl _)
        have hlt' : (k : Int) < (n : Int) := by omega
        have hkN := km_le (show k ≤ 16807 by omega) hN5
        have MK := hide (fun w O => MI.out (X k) (C k) (F k) (1 + (km N k : Int)) w (by omega) (by omega) O)
        have hO := hide o1
        have hE : Hid ((1 + (km N k : Int)) + (N : Int) = 1 + (km N (k + 1) : Int)) := by show _ = _; have := km_succ N k; omega
        have hxk := (hc k hlt).2
        have hglr := Nat.lt_of_lt_of_le hgl hd.size
        clear o1
        go_wp2_with fail
        refine (MK.out _ hO.out).mono ?_
        rintro e w3 ⟨rfl, b3, o3⟩
        have hNx : Hid (∀ i, i < n → w3.cell? ⟨g, i, none⟩ = some (.slice (some ⟨X i, 0, none⟩) N (C i)) ∧ (i < k + 1 → OutInt (X i) N N (fun j => (1 + (km N i : Int)) + (j : Int)) w3) ∧ (k + 1 ≤ i → OutInt (X i) N N (F i) w3)) := fun i hi => by
          obtain ⟨h1, h2, h3⟩ := hall.out i hi
          refine ⟨(b3.cell hglr (fun e => hxk.2.1 e.symm)).trans h1, fun h => ?_, fun h => (h3 (by omega)).only b3 (hx i k hi hlt (by omega))⟩
          by_cases e : i = k
          · subst e; exact o3
          · exact (h2 (by omega)).only b3 (hx i k hi hlt e)
        have hd3 : Below base w w3 := hd.trans ((b3.below (Nat.le_of_lt hO.out.1)).mono hxk.1)
        clear hall b3 o3 hd
        go_wp2_with fail
        exact ⟨⟨k + 1, by rw [hE.out], by go_num, by omega, hNx, hd3⟩, by simp [intOf]; omega⟩
      · have hlt' : ¬ (k : Int) < (n : Int) := by omega
        obtain rfl : k = n := by omega
        have hRo : Hid (RowLL (some ⟨g, 0, none⟩) k (fun i => ⟨N, fun j => (1 + (km N i : Int)) + (j : Int)⟩) wr) := fun i hi => ⟨g, 0, _, _, rfl, Nat.lt_of_lt_of_le hgl hd.size, by rw [Nat.zero_add]; exact (hall.out i hi).1, ((hall.out i hi).2.1 hi).row⟩
        clear hall
        go_wp2_with fail
        go_ret
        exact ⟨rfl, hRo.out, hd⟩
set_option maxRecDepth 100000 in
set_option maxHeartbeats 1600000 in
theorem w_heldSS (N : Nat) (va : Option Addr) (n cap : Nat) (w : World) (hn : n ≤ 16807) (hN : n = 0 ∨ N ≤ 5) (hR : RowLL va n (fun i => ⟨N, fun j => (1 + (km N i : Int)) + (j : Int)⟩) w) :
    Calls Try.prog 37 #[.slice va n cap, .int .i64 1] w fun e w' => e = .returned (.int .i64 (1 + (km N n : Int))) ∧ w' = w := by
  go_enter Try.func37, Try.ntmps37
  go_wp2_with fail
  go_loop [1, 5] (fun x y => ∃ k : Nat, x = .int .i64 (1 + (km N k : Int)) ∧ y = .int .i64 k ∧ k ≤ n) (fun _ y => n - (intOf y).toNat)
  case atStart => exact ⟨0, by rw [km_zero]; rfl, rfl, Nat.zero_le _⟩
  case round =>
    obtain ⟨k, rfl, rfl, hk⟩ := hrel
    by_cases hlt : k < n
    · obtain ⟨b, off, a0, c0, rfl, hbw, u0, ht⟩ := hR k hlt
      have hlt' : (k : Int) < (n : Int) := by omega
      have hN5 : N ≤ 5 := by omega
      have hkN := km_le (show k ≤ 16807 by omega) hN5
      have H := hide (fun w R => w_heldIntS a0 N c0 (1 + (km N k : Int)) w (by omega) (by omega) (by omega) R)
      have hE : Hid ((1 + (km N k : Int)) + (N : Int) = 1 + (km N (k + 1) : Int)) := by show _ = _; have := km_succ N k; omega
      have hT := hide ht
      replace u0 : w.cell? ⟨b, off + k, none⟩ = some (.slice a0 N c0) := u0
      clear ht hR
      have hge : ¬ ((1 + (km N k : Int)) + (N : Int) < 0) := by omega
      go_wp2_with fail
      refine (H.out _ hT.out).mono ?_
      rintro e w3 ⟨rfl, hw3⟩
      rw [hw3]; clear hw3 w3
      go_wp2_with fail
      exact ⟨⟨k + 1, by rw [hE.out], by go_num, by omega⟩, by simp [intOf]; omega⟩
    · have hlt' : ¬ (k : Int) < (n : Int) := by omega
      obtain rfl : k = n := by omega
      clear hR
      go_wp2_with fail
      go_ret
      exact ⟨rfl, rfl⟩
end Go.Proofs.Ytcnlabedlcmilaa
