/- Chapter 4 in plain words: good attrs, and numbers as bytes, the highest first. -/
import Derived.Test.YtjjdfniemlcnnaaRib13
import Derived.Test.YtjjdfniemlcnnaaMark8q
import Derived.Test.YtjjdfniemlcnnaaAll1
import Derived.Laws.BytesArg
/- Rows and ribs that are written into. -/
namespace Go.Proofs.Ytjjdfniemlcnnaa
open Go.RowKit

set_option maxRecDepth 100000 in
set_option maxHeartbeats 3200000 in
theorem w_markRowS (c n cap : Nat) (X H : Nat → Nat) (hi : Nat) (U : Nat → Rc) (w : World) (hs : n + totR U n ≤ 1048576) (hc : c < hi) (hR : RowRO c n X H hi U w) (hF : FreeB c (n * 3) w) :
    Calls Try.prog 30 #[.slice (some ⟨c, 0, none⟩) n cap, .int .i64 1] w fun e w' => ∃ r : Nat, e = .returned (.int .i64 (r : Int)) ∧ OnlyS (fun b => c ≤ b ∧ b < hi) w w' := by
  have hl : LowR n U := lowR_of (by omega)
  go_enter Try.func30, Try.ntmps30
  go_wp2_with fail
  go_loopw [1, 5] (fun x y wr => ∃ (k r : Nat), x = .int .i64 (r : Int) ∧ y = .int .i64 k ∧ k ≤ n ∧ r ≤ 1 + 2 * k + 6 * totR U k ∧ Hid (∀ i, k ≤ i → i < n → OneR c X H hi U wr i) ∧ FreeB c (n * 3) wr ∧ OnlyS (fun b => c ≤ b ∧ b < hi) w wr) (fun _ y _ => n - (intOf y).toNat)
  case atStart => exact ⟨0, 1, rfl, rfl, Nat.zero_le _, by simp, fun i _ hi => hR.2 i hi, hF, OnlyS.refl _ _⟩
  case round =>
    clear hF hR
    obtain ⟨k, r, rfl, rfl, hk, hr, hall, FC, hb⟩ := hrel
    by_cases hlt : k < n
    · have hlt' : (k : Int) < (n : Int) := by omega
      obtain ⟨g1, g2, g3, g4, g5, u0, u1, u2, G, Y, Z, o1⟩ := hall.out k (Nat.le_refl _) hlt
      have hmo := totR_mono U (show k + 1 ≤ n by omega)
      have hsu : totR U (k + 1) = totR U k + (U k).tot := rfl
      have htt : (U k).tot = (U k).n + totO (U k).T (U k).n := rfl
      obtain ⟨l1, l2⟩ := hl k hlt
      obtain ⟨hRA, hSp, hBk⟩ := o1.own G
      have MK := hide (fun w R => w_markOfferSq (r + 1 + 1) (X k) (U k).n (U k).n Y Z (fun i => ((U k).T i).n0) (fun i => ((U k).T i).n1) (U k).T w (by omega) l1 l2 hSp R)
      have hO := hide hRA
      have hE : Hid (kmQ (r + 1 + 1) (U k).T (U k).n ≤ 1 + 2 * (k + 1) + 6 * totR U (k + 1)) := by show _ ≤ _; unfold kmQ; omega
      have hpush : Hid (((r + 1 + 1 : Nat) : Int) = (r : Int) + 1 + 1) := by rw [Hid]; omega
      obtain ⟨⟨p0, e0⟩, f0⟩ := FC.2 (k * 3) (by omega)
      obtain ⟨⟨p1, e1⟩, f1⟩ := FC.2 (k * 3 + 1) (by omega)
      rw [hpush.out] at MK
      have F2 := hide ((FC.set (k * 3) (.int .i64 (r : Int))).set (k * 3 + 1) (.int .i64 ((r : Int) + 1)))
      have O2 := hide ((hb.set (c := c) ⟨Nat.le_refl _, hc⟩ (k * 3) (.int .i64 (r : Int))).set (c := c) ⟨Nat.le_refl _, hc⟩ (k * 3 + 1) (.int .i64 ((r : Int) + 1)))
      have hr30 : r ≤ 10000000 := by omega
      clear l1 l2 hsu htt hmo G o1 hSp hRA FC
      generalize kmQ (r + 1 + 1) (U k).T (U k).n = km at *
      go_wp2_with fail
      refine (MK.out _ ?_).mono ?_
      · intro i hi
        obtain ⟨M, o1, o2⟩ := hO.out i hi
        have bx := hBk (Y i) (Or.inr ⟨i, hi, Or.inl rfl⟩)
        have byy := hBk (Z i) (Or.inr ⟨i, hi, Or.inr rfl⟩)
        exact ⟨(M.onlyS ((OnlyS.refl (fun b => b = c) wr).set rfl (k * 3) (.int .i64 (r : Int))) (by omega)).onlyS ((OnlyS.refl (fun b => b = c) _).set rfl _ _) (by omega), (o1.other (by omega) _ _).other (by omega) _ _, (o2.other (by omega) _ _).other (by omega) _ _⟩
      rintro e w3 ⟨rfl, _, b3⟩
      have hN : Hid (∀ i, k + 1 ≤ i → i < n → OneR c X H hi U w3 i) := by
        intro i h1 h2
        have f0 := ((hall.out i (by omega) h2).set (q := k * 3) (by omega) (.int .i64 (r : Int))).set (q := k * 3 + 1) (by omega) (.int .i64 ((r : Int) + 1))
        have f7 := f0.2.2.2.1 k (by omega)
        have f8 := f0.1
        refine f0.onlyS b3 (fun hbk => ?_) (fun q h1 h2 hbk => ?_)
        · have := hBk _ hbk; omega
        · have := hBk _ hbk; omega
      have F3 := F2.out.onlyS b3 (fun hbk => by have := hBk _ hbk; omega)
      have hb3 := O2.out.trans (b3.mono (Q := fun b => c ≤ b ∧ b < hi) (fun q hq => by have := hBk _ hq; exact ⟨by omega, by omega⟩))
      clear hall b3 hb F2 O2 hO MK hBk e0 e1 f0 f1 u0 u1 u2
      go_wp2_with fail
      exact ⟨⟨k + 1, _, rfl, by go_num, by omega, hE.out, hN, F3, hb3⟩, by simp [intOf]; omega⟩
    · have hlt' : ¬ (k : Int) < (n : Int) := by omega
      obtain rfl : k = n := by omega
      go_wp2_with fail
      go_ret
      exact ⟨⟨r, rfl⟩, hb⟩
set_option maxRecDepth 100000 in
set_option maxHeartbeats 1600000 in
theorem w_markRib (ow : Int) (c n cap : Nat) (X H : Nat → Nat) (hi : Nat) (U : Nat → Rc) (w : World) (hs : n + totR U n ≤ 1048576) (hc : c < hi) (hR : RowRO c n X H hi U w) (hF : FreeB c (n * 3) w) :
    Calls Try.prog 10 #[.agg #[.int .i64 ow, .slice (some ⟨c, 0, none⟩) n cap], .int .i64 1] w fun e w' => ∃ r : Nat, e = .returned (.int .i64 (r : Int)) ∧ OnlyS (fun b => c ≤ b ∧ b < hi) w w' := by
  have M := hide (fun w R F => w_markRowS c n cap X H hi U w hs hc R F)
  have d0 : Below w.heap.size w (w.alloc (.cells #[.int .i64 ow, .slice (some ⟨c, 0, none⟩) n cap] 24)) := below_box (Below.refl _ _)
  have hd : OnlyS (fun b => c ≤ b ∧ b < hi) w (w.alloc (.cells #[.int .i64 ow, .slice (some ⟨c, 0, none⟩) n cap] 24)) := ⟨d0.os, d0.tape, d0.output, d0.size, fun k hk _ => d0.block k hk⟩
  clear hs hc
  go_enter Try.func10, Try.ntmps10
  go_wp2_with fail
  refine (M.out _ (hR.below d0) (hF.below d0)).mono ?_
  rintro e w1 ⟨r, rfl, b1⟩
  have b2 := hd.trans b1
  clear b1 M hd
  go_wp2_with fail
  go_ret
  exact ⟨r, rfl, b2⟩
end Go.Proofs.Ytjjdfniemlcnnaa

namespace Go.Proofs.Ytjjdfniemlcnnaa
open Go.RowKit

theorem rall_next {p : Nat → Bool} {k : Nat} (h : (List.range k).all p = true) (h1 : p k = true) : (List.range (k + 1)).all p = true := by
  rw [List.range_succ, List.all_append, h, Bool.true_and]
  simp [h1]
theorem rall_no {p : Nat → Bool} {n k : Nat} (hk : k < n) (h : p k = false) : (List.range n).all p = false := by
  rw [List.all_eq_false]
  exact ⟨k, List.mem_range.2 hk, by simp [h]⟩

def pathOk (f : Nat → Int) (i : Nat) : Bool := inB (f i) 1 65535
def pathB (n : Nat) (f : Nat → Int) : Bool := (List.range n).all (pathOk f)
def commOk (f : Nat → Int) (i : Nat) : Bool := inB (f i) 0 1000000 && (i == 0 || decide (f (i - 1) < f i))
def commB (n : Nat) (f : Nat → Int) : Bool := (List.range n).all (commOk f)
/-- Attrs are good. -/
def attrB (o nx md pf : Int) (n0 : Nat) (f : Nat → Int) (n1 : Nat) (g : Nat → Int) : Bool :=
  inB o 0 2 && inB nx 0 4294967295 && inB md 0 1000000 && inB pf 0 1000000 && decide (n0 ≤ 10) && pathB n0 f && decide (n1 ≤ 6) && commB n1 g
theorem attrB_path {o nx md pf : Int} {n0 : Nat} {f : Nat → Int} {n1 : Nat} {g : Nat → Int} (h : pathB n0 f = false) : attrB o nx md pf n0 f n1 g = false := by simp [attrB, h]
theorem attrB_comm {o nx md pf : Int} {n0 : Nat} {f : Nat → Int} {n1 : Nat} {g : Nat → Int} (h : commB n1 g = false) : attrB o nx md pf n0 f n1 g = false := by simp [attrB, h]

/-- A number's lowest k bytes, the highest first. -/
def be (n : Int) : Nat → List Int
  | 0 => []
  | k + 1 => be (n / 256) k ++ [n % 256]
theorem be_len (n : Int) (k : Nat) : (be n k).length = k := by
  induction k generalizing n with
  | zero => rfl
  | succ k ih => simp [be, ih]
theorem be_at (n : Int) {k j : Nat} (h : j < k) : (be n k).getD j 0 = n / 256 ^ (k - 1 - j) % 256 := by
  induction k generalizing n with
  | zero => omega
  | succ k ih =>
    unfold be
    by_cases hj : j < k
    · have e : (be (n / 256) k ++ [n % 256]).getD j 0 = (be (n / 256) k).getD j 0 := by
        rw [List.getD_eq_getElem?_getD, List.getD_eq_getElem?_getD, List.getElem?_append_left (by rw [be_len]; exact hj)]
      rw [e, ih (n / 256) hj, Int.ediv_ediv_of_nonneg (by decide)]
      rw [show k + 1 - 1 - j = (k - 1 - j) + 1 by omega, Int.pow_succ, Int.mul_comm]
    · have hj' : j = k := by omega
      subst hj'
      have e : (be (n / 256) j ++ [n % 256]).getD j 0 = n % 256 := by
        rw [List.getD_eq_getElem?_getD, List.getElem?_append_right (by rw [be_len]; exact Nat.le_refl _), be_len]
        simp
      rw [e]
      simp
theorem be_byte (n : Int) (k : Nat) : ∀ x ∈ be n k, 0 ≤ x ∧ x < 256 := by
  induction k generalizing n with
  | zero => simp [be]
  | succ k ih =>
    intro x hx
    simp only [be, List.mem_append, List.mem_singleton] at hx
    rcases hx with hx | rfl
    · exact ih _ x hx
    · omega

theorem str_app (xs ys : List Int) : strOfNums (xs ++ ys) = strOfNums xs ++ strOfNums ys := by
  apply ByteArray.ext
  rw [ByteArray.data_append]
  simp [strOfNums]
theorem str_nil : strOfNums [] = ByteArray.empty := rfl
end Go.Proofs.Ytjjdfniemlcnnaa
