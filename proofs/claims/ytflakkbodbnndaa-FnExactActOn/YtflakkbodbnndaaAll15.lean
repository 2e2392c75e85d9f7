/- The five deeds of the program in one form. -/
import Derived.Test.YtflakkbodbnndaaI7n
import Derived.Test.YtflakkbodbnndaaAll8
/- A number put into a rising list, and taken out of it: the search's way and the specification's come to the same. -/
namespace Go.Proofs.Ytflakkbodbnndaa

theorem up_count {l : List Int} {n : Int} (h : ∀ x ∈ l, n ≤ x) : l.countP (· < n) = 0 := by
  rw [List.countP_eq_zero]
  intro x hx
  have := h x hx
  simp
  omega
theorem up_not {l : List Int} {n : Int} (h : ∀ x ∈ l, n < x) : l.contains n = false := by
  cases hc : l.contains n with
  | false => rfl
  | true =>
    have := h n (by simpa using hc)
    omega
theorem has_cons {a n : Int} {l : List Int} (h : a ≠ n) : (a :: l).contains n = l.contains n := by
  rw [List.contains_cons]
  have : (n == a) = false := by simp; omega
  rw [this, Bool.false_or]
theorem wcL_put {L : List Int} {n : Int} (h : UpN L) : wcL L n = putN L n := by
  induction L with
  | nil => simp [wcL, putN]
  | cons a l ih =>
    obtain ⟨ha, hl⟩ := List.pairwise_cons.1 h
    have ih := ih hl
    rw [putN]
    by_cases c : a < n
    · rw [if_pos c, ← ih]
      unfold wcL
      rw [has_cons (by omega), List.countP_cons_of_pos (by simpa using c)]
      by_cases e : l.contains n = true
      · rw [if_pos e, if_pos e]
      · rw [if_neg e, if_neg e, List.take_succ_cons, List.drop_succ_cons]
        rfl
    · rw [if_neg c]
      by_cases d : a = n
      · rw [if_pos d]
        unfold wcL
        rw [if_pos (by simp [d])]
      · rw [if_neg d]
        unfold wcL
        rw [up_not (fun x hx => by rcases List.mem_cons.1 hx with rfl | hx; omega; have := ha x hx; omega), up_count (fun x hx => by rcases List.mem_cons.1 hx with rfl | hx; omega; have := ha x hx; omega)]
        simp
theorem woL_flt {L : List Int} {n : Int} (h : UpN L) : woL L n = L.filter (· != n) := by
  induction L with
  | nil => simp [woL]
  | cons a l ih =>
    obtain ⟨ha, hl⟩ := List.pairwise_cons.1 h
    have ih := ih hl
    by_cases c : a < n
    · rw [List.filter_cons_of_pos (by simp; omega), ← ih]
      unfold woL
      rw [has_cons (by omega), List.countP_cons_of_pos (by simpa using c)]
      by_cases e : l.contains n = true
      · rw [if_pos e, if_pos e, List.take_succ_cons, List.drop_succ_cons]
        rfl
      · rw [if_neg e, if_neg e]
    · have hf : l.filter (· != n) = l := List.filter_eq_self.2 (fun x hx => by have := ha x hx; simp; omega)
      by_cases d : a = n
      · rw [List.filter_cons_of_neg (by simp [d]), hf]
        unfold woL
        rw [if_pos (by simp [d]), up_count (fun x hx => by rcases List.mem_cons.1 hx with rfl | hx; omega; have := ha x hx; omega)]
        simp
      · rw [List.filter_cons_of_pos (by simp; omega), hf]
        unfold woL
        rw [up_not (fun x hx => by rcases List.mem_cons.1 hx with rfl | hx; omega; have := ha x hx; omega)]
        simp
end Go.Proofs.Ytflakkbodbnndaa

namespace Go.Proofs.Ytflakkbodbnndaa
open Go.RowKit

theorem do_pa (k n : Int) (t : Ro) : (doR k n t).pa = t.pa := by unfold doR; repeat (first | rfl | split)
theorem do_pl (k n : Int) (t : Ro) : (doR k n t).pl = t.pl := by unfold doR; repeat (first | rfl | split)
theorem lt_of_step {g : Nat → Int} {n : Nat} (h : ∀ i, i < n → i = 0 ∨ g (i - 1) < g i) (i : Nat) : ∀ j, i < j → j < n → g i < g j := by
  intro j
  induction j with
  | zero => intro h0 _; omega
  | succ j ih =>
    intro hij hj
    rcases h (j + 1) hj with h0 | h0
    · omega
    · have h1 : g j < g (j + 1) := h0
      by_cases e : i = j
      · rw [e]; exact h1
      · exact Int.lt_trans (ih (by omega) (by omega)) h1
theorem rt_up {t : Ro} (h : rtOk t = true) : UpN t.L := by
  simp only [rtOk, routeB, attrB, Bool.and_eq_true] at h
  have hc := h.2.2
  simp only [commB, List.all_eq_true, List.mem_range] at hc
  have hs : ∀ i, i < t.n1 → i = 0 ∨ t.g (i - 1) < t.g i := fun i hi => by
    have := hc i hi
    simp only [commOk, Bool.and_eq_true, Bool.or_eq_true, beq_iff_eq, decide_eq_true_eq] at this
    exact this.2
  unfold UpN Ro.L
  rw [List.pairwise_map]
  refine List.Pairwise.imp_of_mem ?_ List.pairwise_lt_range
  intro a b ha hb hab
  exact lt_of_step hs a b hab (by simpa using hb)
theorem mut_outL {w : World} {c : Nat} {L : List Int} (h : Mut w c (ncells .i64 L)) : OutInt c L.length L.length (fun i => L.getD i 0) w := by
  refine ⟨h.1, fun i hi => ⟨⟨L.getD i 0, h.2.1 i _ ?_, fun _ => rfl⟩, h.2.2 i (by rw [nc_len]; exact hi)⟩⟩
  simp [ncells, List.getD_eq_getElem?_getD, hi]
theorem outK {w : World} {base g kc : Nat} {t : Ro} {e : TypeId} (h : OwnN e .i64 base (.slice (some ⟨g, 0, none⟩) t.n0 kc) t.K w) : OutInt g t.n0 t.n0 t.f w := by
  have := ownN_out (L := t.K) (by rw [Ro.K_len]; exact h)
  rw [Ro.K_len] at this
  exact this.congr (fun i hi => by simp [Ro.K, List.getD_eq_getElem?_getD, hi])
theorem outL {w : World} {base g kc : Nat} {t : Ro} {e : TypeId} (h : OwnN e .i64 base (.slice (some ⟨g, 0, none⟩) t.n1 kc) t.L w) : OutInt g t.n1 t.n1 t.g w := by
  have := ownN_out (L := t.L) (by rw [Ro.L_len]; exact h)
  rw [Ro.L_len] at this
  exact this.congr (fun i hi => by simp [Ro.L, List.getD_eq_getElem?_getD, hi])
/-- A route whose lists are its own. -/
def DoH (t : Ro) (base g kc h lc : Nat) (w : World) : Prop := (t.n0 ≤ 10 ∧ t.n1 ≤ 6) ∧ UpN t.L ∧ (base ≤ w.heap.size ∧ g ≠ h ∧ g < w.heap.size ∧ h < w.heap.size) ∧ OwnN 3 .i64 base (.slice (some ⟨g, 0, none⟩) t.n0 kc) t.K w ∧ OwnN 3 .i64 base (.slice (some ⟨h, 0, none⟩) t.n1 lc) t.L w
/-- What a deed answers. -/
def DoP (r : Ro) (g h base : Nat) (w : World) (e : Ending) (w' : World) : Prop := ∃ p pc q qc, e = .returned (.agg #[.int .i64 r.o, .slice (some ⟨p, 0, none⟩) r.n0 pc, .int .i64 r.nx, .int .i64 r.md, .int .i64 r.pf, .slice (some ⟨q, 0, none⟩) r.n1 qc]) ∧ (p = g ∨ w.heap.size ≤ p) ∧ (q = h ∨ w.heap.size ≤ q) ∧ p ≠ q ∧ OutInt p r.n0 r.n0 r.f w' ∧ OutInt q r.n1 r.n1 r.g w' ∧ Below base w w' ∧ ∃ z, (z = g ∨ z = h) ∧ Only z w w'
theorem i_do1 (n : Int) (t : Ro) (base g kc h lc : Nat) (w : World) (H : DoH t base g kc h lc w) :
    Calls Try.prog 53 #[.agg #[.int .i64 t.o, .slice (some ⟨g, 0, none⟩) t.n0 kc, .int .i64 t.nx, .int .i64 t.md, .int .i64 t.pf, .slice (some ⟨h, 0, none⟩) t.n1 lc], .int .i64 n] w (DoP (doR 1 n t) g h base w) := by
  obtain ⟨_, _, ⟨hbs, hgh, _⟩, O0, O1⟩ := H
  refine (i_withPref t.o t.nx t.md t.pf n (some ⟨g, 0, none⟩) t.n0 kc (some ⟨h, 0, none⟩) t.n1 lc w).mono ?_
  rintro e w' ⟨rfl, b⟩
  exact ⟨g, kc, h, lc, rfl, .inl rfl, .inl rfl, hgh, (outK O0).below b, (outL O1).below b, b.mono hbs, g, .inl rfl, Only.of_below b⟩
theorem i_do2 (n : Int) (t : Ro) (base g kc h lc : Nat) (w : World) (H : DoH t base g kc h lc w) :
    Calls Try.prog 54 #[.agg #[.int .i64 t.o, .slice (some ⟨g, 0, none⟩) t.n0 kc, .int .i64 t.nx, .int .i64 t.md, .int .i64 t.pf, .slice (some ⟨h, 0, none⟩) t.n1 lc], .int .i64 n] w (DoP (doR 2 n t) g h base w) := by
  obtain ⟨_, _, ⟨hbs, hgh, _⟩, O0, O1⟩ := H
  refine (i_withMed t.o t.nx t.md t.pf n (some ⟨g, 0, none⟩) t.n0 kc (some ⟨h, 0, none⟩) t.n1 lc w).mono ?_
  rintro e w' ⟨rfl, b⟩
  exact ⟨g, kc, h, lc, rfl, .inl rfl, .inl rfl, hgh, (outK O0).below b, (outL O1).below b, b.mono hbs, g, .inl rfl, Only.of_below b⟩
theorem i_do3 (n : Int) (t : Ro) (base g kc h lc : Nat) (w : World) (H : DoH t base g kc h lc w) :
    Calls Try.prog 55 #[.agg #[.int .i64 t.o, .slice (some ⟨g, 0, none⟩) t.n0 kc, .int .i64 t.nx, .int .i64 t.md, .int .i64 t.pf, .slice (some ⟨h, 0, none⟩) t.n1 lc], .int .i64 n] w (DoP (doR 3 n t) g h base w) := by
  obtain ⟨⟨hs0, hs1⟩, hu, ⟨hbs, hgh, ⟨hg, hh⟩⟩, O0, O1⟩ := H
  have X := i_withComm t.o t.nx t.md t.pf n (some ⟨g, 0, none⟩) t.n0 kc base h lc t.L w (by rw [Ro.L_len]; omega) (hu.imp (fun h => Int.le_of_lt h)) hbs (by rw [Ro.L_len]; exact O1)
  rw [Ro.L_len, wcL_put hu] at X
  refine X.mono ?_
  rintro e w' ⟨c, cp, rfl, hc, M, b, on, hw⟩
  have hK := outK O0
  exact ⟨g, kc, c, cp, rfl, .inl rfl, hw, by omega, hK.only on hgh, mut_outL M, b, h, .inr rfl, on⟩
theorem i_do4 (n : Int) (t : Ro) (base g kc h lc : Nat) (w : World) (H : DoH t base g kc h lc w) :
    Calls Try.prog 56 #[.agg #[.int .i64 t.o, .slice (some ⟨g, 0, none⟩) t.n0 kc, .int .i64 t.nx, .int .i64 t.md, .int .i64 t.pf, .slice (some ⟨h, 0, none⟩) t.n1 lc], .int .i64 n] w (DoP (doR 4 n t) g h base w) := by
  obtain ⟨⟨hs0, hs1⟩, hu, ⟨hbs, hgh, ⟨hg, hh⟩⟩, O0, O1⟩ := H
  have X := i_withoutComm t.o t.nx t.md t.pf n (some ⟨g, 0, none⟩) t.n0 kc base h lc t.L w (by rw [Ro.L_len]; omega) (hu.imp (fun h => Int.le_of_lt h)) hbs (by rw [Ro.L_len]; exact O1)
  rw [Ro.L_len, woL_flt hu] at X
  refine X.mono ?_
  rintro e w' ⟨c, cp, rfl, hc, M, b, on, hw⟩
  have hK := outK O0
  exact ⟨g, kc, c, cp, rfl, .inl rfl, hw, by omega, hK.only on hgh, mut_outL M, b, h, .inr rfl, on⟩
theorem i_do5 (n : Int) (t : Ro) (base g kc h lc : Nat) (w : World) (H : DoH t base g kc h lc w) :
    Calls Try.prog 58 #[.agg #[.int .i64 t.o, .slice (some ⟨g, 0, none⟩) t.n0 kc, .int .i64 t.nx, .int .i64 t.md, .int .i64 t.pf, .slice (some ⟨h, 0, none⟩) t.n1 lc], .int .i64 n] w (DoP (doR 5 n t) g h base w) := by
  obtain ⟨⟨hs0, hs1⟩, _, ⟨hbs, hgh, ⟨hg, hh⟩⟩, O0, O1⟩ := H
  have X := i_withAhead t.o t.nx t.md t.pf n base g kc t.K (some ⟨h, 0, none⟩) t.n1 lc w (by rw [Ro.K_len]; omega) hbs (by rw [Ro.K_len]; exact O0)
  rw [Ro.K_len] at X
  refine X.mono ?_
  rintro e w' ⟨c, cp, rfl, hc, M, b, on, hw⟩
  have hL := outL O1
  have hM := mut_outL M
  simp only [List.length_cons, Ro.K_len] at hM
  refine ⟨c, cp, h, lc, ?_, hw, .inl rfl, by omega, ?_, hL.only on (Ne.symm hgh), b, g, .inl rfl, on⟩
  · rw [do5]; simp [withK, Ro.K_len]
  · rw [do5]; simpa [withK, Ro.K_len] using hM
end Go.Proofs.Ytflakkbodbnndaa
