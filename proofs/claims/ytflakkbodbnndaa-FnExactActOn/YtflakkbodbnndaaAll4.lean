/- Chapter 4 in plain words: good attrs, and numbers as bytes, the highest first. -/
import Derived.Test.YtflakkbodbnndaaFlatAttrs
import Derived.Test.YtflakkbodbnndaaMemN
import Derived.Test.YtflakkbodbnndaaAll1
import Derived.Laws.BytesArg
/- Attrs marked and looked at again; lists of numbers of one's own as rows that may be written. -/
namespace Go.Proofs.Ytflakkbodbnndaa
open Go.RowKit

theorem RowN.int {a : Option Addr} {L : List Int} {w : World} (h : RowN .i64 a L w) : RowInt a L.length (fun i => L.getD i 0) w := h
theorem RowInt.rowN {a : Option Addr} {n : Nat} {f : Nat → Int} {w : World} (h : RowInt a n f w) : RowN .i64 a ((List.range n).map f) w := by
  intro i hi
  simp only [List.length_map, List.length_range] at hi
  have e : ((List.range n).map f).getD i 0 = f i := by simp [List.getD_eq_getElem?_getD, hi]
  rw [e]
  exact h i hi
theorem ownN_out {e : TypeId} {w : World} {base g cap : Nat} {L : List Int} (h : OwnN e .i64 base (.slice (some ⟨g, 0, none⟩) L.length cap) L w) : OutInt g L.length L.length (fun i => L.getD i 0) w := by
  have hg : g < w.heap.size := by
    rcases h.2 with ⟨h1, _⟩ | ⟨g', cap', cur, h1, _, h3, _⟩
    · simp at h1
    · simp at h1
      rw [h1.1]
      exact (Array.getElem?_eq_some_iff.1 h3).1
  refine ⟨hg, fun i hi => ⟨⟨_, ownN_at h hi, fun _ => rfl⟩, ?_⟩⟩
  exact World.ownsRow.frozenAt (show w.ownsRow base e 1 (.slice (some ⟨g, 0, none⟩) L.length cap) L.length (ncells .i64 L) from h) i
theorem OutInt.congr {c n k : Nat} {f g : Nat → Int} {w : World} (h : OutInt c n k f w) (e : ∀ i, i < n → f i = g i) : OutInt c n k g w := by
  refine ⟨h.1, fun i hi => ?_⟩
  obtain ⟨⟨x, h0, hk⟩, z0⟩ := h.2 i hi
  exact ⟨⟨x, h0, fun h => (hk h).trans (e i hi)⟩, z0⟩

set_option maxRecDepth 100000 in
set_option maxHeartbeats 1600000 in
theorem w_markAttrs (o nx md pf : Int) (x n0 c0 : Nat) (f : Nat → Int) (y n1 c1 : Nat) (g : Nat → Int) (w : World) (h0 : n0 ≤ 1048576) (h1 : n1 ≤ 1048576) (hn : x ≠ y) (O0 : OutInt x n0 n0 f w) (O1 : OutInt y n1 n1 g w) :
    Calls Try.prog 31 #[.agg #[.int .i64 o, .slice (some ⟨x, 0, none⟩) n0 c0, .int .i64 nx, .int .i64 md, .int .i64 pf, .slice (some ⟨y, 0, none⟩) n1 c1], .int .i64 1] w fun e w' => e = .returned (.int .i64 (1 + (n0 : Int) + (n1 : Int))) ∧
      OutInt x n0 n0 (fun i => 1 + (i : Int)) w' ∧ OutInt y n1 n1 (fun i => 1 + (n0 : Int) + (i : Int)) w' ∧ ∃ u, Only x w u ∧ Only y u w' := by
  have s0 := hide (fun w O => w_markIntS x n0 c0 f 1 w (by omega) (by omega) (by omega) O)
  have s1 := hide (fun w O => w_markIntS y n1 c1 g (1 + (n0 : Int)) w (by omega) (by omega) (by omega) O)
  have b0 : (1 : Int) + (n0 : Int) ≤ 1048577 := by omega
  have M := Mut.new w #[.int .i64 o, .slice (some ⟨x, 0, none⟩) n0 c0, .int .i64 nx, .int .i64 md, .int .i64 pf, .slice (some ⟨y, 0, none⟩) n1 c1] 33
  have d : Only x w (w.alloc (.cells #[.int .i64 o, .slice (some ⟨x, 0, none⟩) n0 c0, .int .i64 nx, .int .i64 md, .int .i64 pf, .slice (some ⟨y, 0, none⟩) n1 c1] 33)) := (Only.refl x w).alloc _
  have hx := O0.1
  have hy := O1.1
  have O0 := O0.below (below_box (Below.refl (w.alloc (.cells #[.int .i64 o, .slice (some ⟨x, 0, none⟩) n0 c0, .int .i64 nx, .int .i64 md, .int .i64 pf, .slice (some ⟨y, 0, none⟩) n1 c1] 33)).heap.size (w.alloc (.cells #[.int .i64 o, .slice (some ⟨x, 0, none⟩) n0 c0, .int .i64 nx, .int .i64 md, .int .i64 pf, .slice (some ⟨y, 0, none⟩) n1 c1] 33))))
  have O1 := O1.below (below_box (Below.refl (w.alloc (.cells #[.int .i64 o, .slice (some ⟨x, 0, none⟩) n0 c0, .int .i64 nx, .int .i64 md, .int .i64 pf, .slice (some ⟨y, 0, none⟩) n1 c1] 33)).heap.size (w.alloc (.cells #[.int .i64 o, .slice (some ⟨x, 0, none⟩) n0 c0, .int .i64 nx, .int .i64 md, .int .i64 pf, .slice (some ⟨y, 0, none⟩) n1 c1] 33))))
  clear h0 h1
  go_enter Try.func31, Try.ntmps31
  go_wp2_with fail
  generalize w.alloc (.cells #[.int .i64 o, .slice (some ⟨x, 0, none⟩) n0 c0, .int .i64 nx, .int .i64 md, .int .i64 pf, .slice (some ⟨y, 0, none⟩) n1 c1] 33) = w1 at *
  refine (s0.out _ O0).mono ?_
  rintro e w2 ⟨rfl, o2, P0⟩
  have O1 := O1.only o2 (by omega)
  have M := M.only o2 (by omega)
  have u5 := M.2.1 5 _ rfl
  go_wp2_with fail
  refine (s1.out _ O1).mono ?_
  rintro e w3 ⟨rfl, o3, P1⟩
  go_wp2_with fail
  go_ret
  exact ⟨rfl, P0.only o3 hn, P1, w2, d.trans o2, o3⟩
set_option maxRecDepth 100000 in
set_option maxHeartbeats 1600000 in
theorem w_heldAttrs (o nx md pf : Int) (a0 : Option Addr) (n0 c0 : Nat) (a1 : Option Addr) (n1 c1 : Nat) (w : World) (h0 : n0 ≤ 1048576) (h1 : n1 ≤ 1048576) (R0 : RowInt a0 n0 (fun i => 1 + (i : Int)) w) (R1 : RowInt a1 n1 (fun i => 1 + (n0 : Int) + (i : Int)) w) :
    Calls Try.prog 32 #[.agg #[.int .i64 o, .slice a0 n0 c0, .int .i64 nx, .int .i64 md, .int .i64 pf, .slice a1 n1 c1], .int .i64 1] w fun e w' => e = .returned (.int .i64 (1 + (n0 : Int) + (n1 : Int))) ∧ Below w.heap.size w w' := by
  have s0 := hide (fun w R => w_heldIntS a0 n0 c0 1 w (by omega) (by omega) (by omega) R)
  have s1 := hide (fun w R => w_heldIntS a1 n1 c1 (1 + (n0 : Int)) w (by omega) (by omega) (by omega) R)
  have q0 : ¬ ((1 : Int) + (n0 : Int) < 0) := by omega
  have q1 : ¬ ((1 : Int) + (n0 : Int) + (n1 : Int) < 0) := by omega
  clear h0 h1
  have d : Below w.heap.size w (w.alloc (.cells #[.int .i64 o, .slice a0 n0 c0, .int .i64 nx, .int .i64 md, .int .i64 pf, .slice a1 n1 c1] 33)) := below_box (Below.refl _ _)
  go_enter Try.func32, Try.ntmps32
  go_wp2_with fail
  refine (s0.out _ (R0.below d)).mono ?_
  rintro e w2 ⟨rfl, rfl⟩
  go_wp2_with fail
  refine (s1.out _ (R1.below d)).mono ?_
  rintro e w3 ⟨rfl, rfl⟩
  go_wp2_with fail
  go_ret
  exact ⟨rfl, d⟩
end Go.Proofs.Ytflakkbodbnndaa

/- What the specification's functions of chapter 1 answer, one contract each. -/
namespace Go.Proofs.Ytflakkbodbnndaa
open Go.RowKit

set_option maxHeartbeats 400000 in
theorem s_in (n lo hi : Int) (w : World) :
    Calls Try.prog 46 #[.int .i64 n, .int .i64 lo, .int .i64 hi] w fun e w' => e = .returned (.bool (inB n lo hi)) ∧ w' = w := by
  by_cases h1 : lo ≤ n
  · by_cases h2 : n ≤ hi
    · rw [inB_t h1 h2]
      go_enter Try.func46, Try.ntmps46
      go_wp2
      go_ret
      exact ⟨rfl, rfl⟩
    · rw [inB_f2 h2]
      go_enter Try.func46, Try.ntmps46
      go_wp2
      go_ret
      exact ⟨rfl, rfl⟩
  · rw [inB_f1 h1]
    go_enter Try.func46, Try.ntmps46
    go_wp2
    go_ret
    exact ⟨rfl, rfl⟩

set_option maxHeartbeats 400000 in
theorem s_addr (n : Int) (w : World) :
    Calls Try.prog 81 #[.int .i64 n] w fun e w' => e = .returned (.bool (inB n 0 4294967295)) ∧ w' = w := by
  go_enter Try.func81, Try.ntmps81
  go_wp2_with (go_at_call 46; refine (s_in _ _ _ _).mono ?_; rintro e w' ⟨rfl, rfl⟩)
  go_ret
  exact ⟨rfl, rfl⟩

set_option maxHeartbeats 400000 in
theorem s_size (a l : Int) (w : World) (h0 : 0 ≤ l) (h1 : l ≤ 32) :
    Calls Try.prog 82 #[.agg #[.int .i64 a, .int .i64 l]] w fun e w' => e = .returned (.int .i64 (pw l)) ∧ Below w.heap.size w w' := by
  go_enter Try.func82, Try.ntmps82
  go_wp2
  go_ret
  exact ⟨ret_int (pw_wrap l h0), (Below.refl _ _).alloc (Nat.le_refl _) _⟩

set_option maxHeartbeats 800000 in
theorem s_good_in (a l : Int) (w : World) (hl0 : 0 ≤ l) (hl1 : l ≤ 32) (ha0 : 0 ≤ a) (ha1 : a ≤ 4294967295) :
    Calls Try.prog 47 #[.agg #[.int .i64 a, .int .i64 l]] w fun e w' => e = .returned (.bool (a % pw l == 0)) ∧ Below w.heap.size w w' := by
  have p1 := pw_pos l
  have p2 := pw_le l hl0
  have p5 : ¬ pw l = 0 := by omega
  have p6 : a.tmod (pw l) = a % pw l := Int.tmod_eq_emod_of_nonneg ha0
  have i1 := inB_t hl0 hl1
  have i2 := inB_t ha0 ha1
  go_enter Try.func47, Try.ntmps47
  go_wp2_with fail
  go_region_with (first
    | (go_at_call 46; refine (s_in _ _ _ _).mono ?_; rintro e w' ⟨rfl, rfl⟩)
    | (go_at_call 81; refine (s_addr _ _).mono ?_; rintro e w' ⟨rfl, rfl⟩)
    | (go_at_call 82; refine (s_size _ _ _ (by omega) (by omega)).mono ?_; rintro e w' ⟨rfl, hb⟩; obtain ⟨hc, hf⟩ := bcell hb))
  all_goals
    go_wp2
    go_ret
    exact ⟨rfl, ((Below.refl _ _).alloc (Nat.le_refl _) _).drew.trans (hb.mono (by simp))⟩

set_option maxHeartbeats 800000 in
theorem s_good_a (a l : Int) (w : World) (hl0 : 0 ≤ l) (hl1 : l ≤ 32) (ha : ¬ (0 ≤ a ∧ a ≤ 4294967295)) :
    Calls Try.prog 47 #[.agg #[.int .i64 a, .int .i64 l]] w fun e w' => e = .returned (.bool false) ∧ Below w.heap.size w w' := by
  have i1 := inB_t hl0 hl1
  have i2 : inB a 0 4294967295 = false := inB_n ha
  clear ha
  go_enter Try.func47, Try.ntmps47
  go_wp2_with fail
  go_quiet ((first | (go_at_call 46; exact Calls.quiet_of_same (s_in _ _ _ _)) | (go_at_call 81; exact Calls.quiet_of_same (s_addr _ _))))
  go_wp2
  go_ret
  exact ⟨rfl, below_drewN ((Below.refl _ _).alloc (Nat.le_refl _) _) _⟩

set_option maxHeartbeats 800000 in
theorem s_good_l (a l : Int) (w : World) (hl : ¬ (0 ≤ l ∧ l ≤ 32)) :
    Calls Try.prog 47 #[.agg #[.int .i64 a, .int .i64 l]] w fun e w' => e = .returned (.bool false) ∧ Below w.heap.size w w' := by
  have i1 : inB l 0 32 = false := inB_n hl
  clear hl
  go_enter Try.func47, Try.ntmps47
  go_wp2_with fail
  go_quiet ((go_at_call 46; exact Calls.quiet_of_same (s_in _ _ _ _)))
  go_wp2
  go_ret
  exact ⟨rfl, below_drewN ((Below.refl _ _).alloc (Nat.le_refl _) _) _⟩

theorem s_good (a l : Int) (w : World) :
    Calls Try.prog 47 #[.agg #[.int .i64 a, .int .i64 l]] w fun e w' => e = .returned (.bool (goodB a l)) ∧ Below w.heap.size w w' := by
  by_cases hl : 0 ≤ l ∧ l ≤ 32
  · by_cases ha : 0 ≤ a ∧ a ≤ 4294967295
    · rw [goodB_in hl.1 hl.2 ha.1 ha.2]
      exact s_good_in a l w hl.1 hl.2 ha.1 ha.2
    · rw [goodB_a ha]
      exact s_good_a a l w hl.1 hl.2 ha
  · rw [goodB_l hl]
    exact s_good_l a l w hl

end Go.Proofs.Ytflakkbodbnndaa

namespace Go.Proofs.Ytflakkbodbnndaa
open Go.RowKit

theorem rall_next {p : Nat → Bool} {k : Nat} (h : (List.range k).all p = true) (h1 : p k = true) : (List.range (k + 1)).all p = true := by
  rw [List.range_succ, List.all_append, h, Bool.true_and]
  simp [h1]
theorem rall_no {p : Nat → Bool} {n k : Nat} (hk : k < n) (h : p k = false) : (List.range n).all p = false := by
  rw [List.all_eq_false]
  exact ⟨k, List.mem_range.2 hk, by simp [h]⟩

def pathOk (f : Nat → Int) (i : Nat) : Bool := inB (f i) 1 65535
def pathB (n : Nat) (f : Nat → Int) : Bool := (List.range n).all (pathOk f)
def commOk (f : Nat → Int) (i : Nat) : Bool := inB (f i) 0 1000000 && (i == 0 || decide (f (i - 1) < f i))
def commB (n : Nat) (f : Nat → Int) : Bool := (List.range n).all (commOk f)
/-- Attrs are good. -/
def attrB (o nx md pf : Int) (n0 : Nat) (f : Nat → Int) (n1 : Nat) (g : Nat → Int) : Bool :=
  inB o 0 2 && inB nx 0 4294967295 && inB md 0 1000000 && inB pf 0 1000000 && decide (n0 ≤ 10) && pathB n0 f && decide (n1 ≤ 6) && commB n1 g
theorem attrB_path {o nx md pf : Int} {n0 : Nat} {f : Nat → Int} {n1 : Nat} {g : Nat → Int} (h : pathB n0 f = false) : attrB o nx md pf n0 f n1 g = false := by simp [attrB, h]
theorem attrB_comm {o nx md pf : Int} {n0 : Nat} {f : Nat → Int} {n1 : Nat} {g : Nat → Int} (h : commB n1 g = false) : attrB o nx md pf n0 f n1 g = false := by simp [attrB, h]

/-- A number's lowest k bytes, the highest first. -/
def be (n : Int) : Nat → List Int
  | 0 => []
  | k + 1 => be (n / 256) k ++ [n % 256]
theorem be_len (n : Int) (k : Nat) : (be n k).length = k := by
  induction k generalizing n with
  | zero => rfl
  | succ k ih => simp [be, ih]
theorem be_at (n : Int) {k j : Nat} (h : j < k) : (be n k).getD j 0 = n / 256 ^ (k - 1 - j) % 256 := by
  induction k generalizing n with
  | zero => omega
  | succ k ih =>
    unfold be
    by_cases hj : j < k
    · have e : (be (n / 256) k ++ [n % 256]).getD j 0 = (be (n / 256) k).getD j 0 := by
        rw [List.getD_eq_getElem?_getD, List.getD_eq_getElem?_getD, List.getElem?_append_left (by rw [be_len]; exact hj)]
      rw [e, ih (n / 256) hj, Int.ediv_ediv_of_nonneg (by decide)]
      rw [show k + 1 - 1 - j = (k - 1 - j) + 1 by omega, Int.pow_succ, Int.mul_comm]
    · have hj' : j = k := by omega
      subst hj'
      have e : (be (n / 256) j ++ [n % 256]).getD j 0 = n % 256 := by
        rw [List.getD_eq_getElem?_getD, List.getElem?_append_right (by rw [be_len]; exact Nat.le_refl _), be_len]
        simp
      rw [e]
      simp
theorem be_byte (n : Int) (k : Nat) : ∀ x ∈ be n k, 0 ≤ x ∧ x < 256 := by
  induction k generalizing n with
  | zero => simp [be]
  | succ k ih =>
    intro x hx
    simp only [be, List.mem_append, List.mem_singleton] at hx
    rcases hx with hx | rfl
    · exact ih _ x hx
    · omega

theorem str_app (xs ys : List Int) : strOfNums (xs ++ ys) = strOfNums xs ++ strOfNums ys := by
  apply ByteArray.ext
  rw [ByteArray.data_append]
  simp [strOfNums]
theorem str_nil : strOfNums [] = ByteArray.empty := rfl
end Go.Proofs.Ytflakkbodbnndaa
