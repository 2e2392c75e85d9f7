/- What the specification's functions of chapter 1 answer, one contract each. -/
import Derived.Test.YtjjdfniemlcnnaaAll1
import Derived.Test.YtjjdfniemlcnnaaPlain6
import Derived.Test.YtjjdfniemlcnnaaPlain8
import Derived.Test.YtjjdfniemlcnnaaMemU
/- Policies, plain: which ranges, acts and terms are good. -/
namespace Go.Proofs.Ytjjdfniemlcnnaa

def rgOk (p l lo hi : Int) : Bool := goodB p l && inB lo l 32 && inB hi lo 32
def acOk (k n : Int) : Bool := if k = 5 then inB n 1 65535 else inB k 1 4 && inB n 0 1000000
theorem acOk_no {k n : Int} (h : ¬ (1 ≤ k ∧ k ≤ 5)) : acOk k n = false := by
  unfold acOk
  rw [if_neg (by omega)]
  by_cases h1 : 1 ≤ k
  · rw [inB_f2 (by omega)]; rfl
  · rw [inB_f1 h1]; rfl
def rgsB (n : Nat) (f0 f1 f2 f3 : Nat → Int) : Bool := (List.range n).all fun i => rgOk (f0 i) (f1 i) (f2 i) (f3 i)
def acsB (n : Nat) (g0 g1 : Nat → Int) : Bool := (List.range n).all fun i => acOk (g0 i) (g1 i)
/-- A term's pattern: none, or a good one. -/
def tpB (L : List Cl) : Bool := L.isEmpty || rgB L
/-- Whether a term is good. -/
def tmB (nr : Nat) (f0 f1 f2 f3 : Nat → Int) (L : List Cl) (cm : Int) (na : Nat) (g0 g1 : Nat → Int) (vd : Int) : Bool :=
  rgsB nr f0 f1 f2 f3 && decide (nr ≤ 6) && tpB L && inB cm (-1) 1000000 && acsB na g0 g1 && decide (na ≤ 5) && inB vd 0 2
theorem all_nextN {n k : Nat} {p : Nat → Bool} (h : ∀ i, i < k → p i = true) (e : p k = true) (_ : k < n) : ∀ i, i < k + 1 → p i = true := by
  intro i hi
  by_cases c : i = k
  · subst c; exact e
  · exact h i (by omega)
theorem all_true {n : Nat} {p : Nat → Bool} (h : ∀ i, i < n → p i = true) : (List.range n).all p = true := by
  rw [List.all_eq_true]
  intro i hi
  exact h i (List.mem_range.1 hi)
theorem all_false {n k : Nat} {p : Nat → Bool} (hk : k < n) (e : p k = false) : (List.range n).all p = false := by
  rw [List.all_eq_false]
  exact ⟨k, List.mem_range.2 hk, by rw [e]; decide⟩
theorem tmB_eq (nr : Nat) (f0 f1 f2 f3 : Nat → Int) (L : List Cl) (cm : Int) (na : Nat) (g0 g1 : Nat → Int) (vd : Int) :
    tmB nr f0 f1 f2 f3 L cm na g0 g1 vd = ((rgsB nr f0 f1 f2 f3 && decide (nr ≤ 6)) && tpB L && inB cm (-1) 1000000 && (acsB na g0 g1 && decide (na ≤ 5)) && inB vd 0 2) := by
  unfold tmB
  simp only [Bool.and_assoc]
theorem tpB_ne {L : List Cl} (h : L ≠ []) : tpB L = rgB L := by
  unfold tpB
  cases L with
  | nil => exact absurd rfl h
  | cons a l => rfl
theorem cm_in {c : Int} (h : ¬ c = -1) : inB c (-1) 1000000 = inB c 0 1000000 := by
  rw [Bool.eq_iff_iff]
  simp only [inB, decide_eq_true_eq]
  omega
end Go.Proofs.Ytjjdfniemlcnnaa

/- Terms that fit, plain. -/
namespace Go.Proofs.Ytjjdfniemlcnnaa

def cvB (a l b m : Int) : Bool := decide (l ≤ m) && hasB a l b
def rnH (p l lo hi pa pl : Int) : Bool := cvB p l pa pl && inB pl lo hi
def anR (n : Nat) (f0 f1 f2 f3 : Nat → Int) (pa pl : Int) : Bool := (List.range n).any fun i => rnH (f0 i) (f1 i) (f2 i) (f3 i) pa pl
def coB (n : Nat) (g : Nat → Int) (c : Int) : Bool := (List.range n).any fun i => g i == c
/-- Whether a term fits a route: by its ranges, by its pattern (r), by its community. -/
def fiB (nr : Nat) (an : Bool) (np : Nat) (r : Bool) (cm : Int) (co : Bool) : Bool := (decide (nr = 0) || an) && (decide (np = 0) || r) && (decide (cm = -1) || co)
theorem any_yes7 {n k : Nat} {p : Nat → Bool} (hk : k < n) (e : p k = true) : (List.range n).any p = true := List.any_eq_true.2 ⟨k, List.mem_range.2 hk, e⟩
theorem any_next7 {k : Nat} {p : Nat → Bool} (h : (List.range k).any p = false) (e : p k = false) : (List.range (k + 1)).any p = false := by
  rw [List.range_succ, List.any_append, h]
  simp [e]
theorem any_or7 {k : Nat} {p : Nat → Bool} : (List.range (k + 1)).any p = ((List.range k).any p || p k) := by
  rw [List.range_succ, List.any_append]
  simp
end Go.Proofs.Ytjjdfniemlcnnaa

/- Lists of offers, plain: which are good, and what is left without those that came by a number. -/
namespace Go.Proofs.Ytjjdfniemlcnnaa
open Go.RowKit

/-- The offer at a place of a list. -/
def TL (L : List Oc) (i : Nat) : Oc := L.getD i oc0
theorem TL_eq {L : List Oc} {i : Nat} (h : i < L.length) : TL L i = L[i] := by
  unfold TL
  rw [List.getD_eq_getElem?_getD, List.getElem?_eq_getElem h]
  rfl
/-- The list of the first n. -/
def lsO (n : Nat) (T : Nat → Oc) : List Oc := (List.range n).map T
theorem lsO_len (n : Nat) (T : Nat → Oc) : (lsO n T).length = n := by simp [lsO]
theorem lsO_at {n : Nat} (T : Nat → Oc) {i : Nat} (h : i < n) : TL (lsO n T) i = T i := by
  rw [TL_eq (by rw [lsO_len]; exact h)]
  simp [lsO]
theorem lsO_succ (n : Nat) (T : Nat → Oc) : lsO (n + 1) T = lsO n T ++ [T n] := by simp [lsO, List.range_succ]
theorem osB_congr {n : Nat} {T U : Nat → Oc} (h : ∀ i, i < n → T i = U i) : osB n T = osB n U := by
  have key : ∀ {T U : Nat → Oc}, (∀ i, i < n → T i = U i) → osB n T = true → osB n U = true := by
    intro T U h hT
    rw [osB_iff] at hT ⊢
    intro i hi
    have := hT i hi
    unfold stO at this ⊢
    rw [← h i hi, ← h (i - 1) (by omega)]
    exact this
  cases e1 : osB n T with
  | true => rw [key h e1]
  | false =>
    cases e2 : osB n U with
    | false => rfl
    | true => rw [key (fun i hi => (h i hi).symm) e2] at e1; exact absurd e1 (by simp)
theorem osB_list {L : List Oc} : osB L.length (TL L) = true ↔ (∀ t, t ∈ L → ofB t = true) ∧ L.Pairwise (fun a b => a.pe < b.pe) := by
  constructor
  · intro h
    refine ⟨fun t ht => ?_, ?_⟩
    · obtain ⟨i, hi, rfl⟩ := List.getElem_of_mem ht
      have := os_of h hi
      rw [TL_eq hi] at this
      exact this
    · rw [List.pairwise_iff_getElem]
      intro i j hi hj hij
      have := os_lt h j hj i hij
      rw [TL_eq hi, TL_eq hj] at this
      exact this
  · rintro ⟨h1, h2⟩
    rw [List.pairwise_iff_getElem] at h2
    refine os_all (fun i hi => ?_)
    have g1 := h1 _ (List.getElem_mem hi)
    unfold stO
    rw [TL_eq hi, g1, Bool.true_and]
    by_cases e : i = 0
    · simp [e]
    · have := h2 (i - 1) i (by omega) hi (by omega)
      rw [TL_eq (show i - 1 < L.length by omega)]
      simp [this]
theorem osB_sub {L M : List Oc} (h : M.Sublist L) (hL : osB L.length (TL L) = true) : osB M.length (TL M) = true := by
  rw [osB_list] at hL ⊢
  exact ⟨fun t ht => hL.1 t (h.subset ht), hL.2.sublist h⟩
theorem osB_ls {n : Nat} {T : Nat → Oc} (h : osB n T = true) : osB (lsO n T).length (TL (lsO n T)) = true := by
  rw [lsO_len, osB_congr (fun i hi => lsO_at T hi)]
  exact h
/-- What did not come by the number. -/
def keepO (x : Int) (t : Oc) : Bool := !coB t.n0 t.f x
def flO (n : Nat) (T : Nat → Oc) (x : Int) : List Oc := (lsO n T).filter (keepO x)
def byK (n : Nat) (T : Nat → Oc) (x : Int) : Bool := osB n T && inB x 1 65535 && decide (0 < (flO n T x).length)
def byV (n : Nat) (T : Nat → Oc) (x : Int) : Int := if byK n T x = true then (TL (flO n T x) (pkO (TL (flO n T x)) ((flO n T x).length - 1))).pe else 0
theorem byK_no1 {n : Nat} {T : Nat → Oc} {x : Int} (h : osB n T = false) : byK n T x = false := by simp [byK, h]
theorem byK_no2 {n : Nat} {T : Nat → Oc} {x : Int} (h : inB x 1 65535 = false) : byK n T x = false := by simp [byK, h]
theorem byV_no {n : Nat} {T : Nat → Oc} {x : Int} (h : byK n T x = false) : byV n T x = 0 := by simp [byV, h]
theorem by_best {n : Nat} {T : Nat → Oc} {x : Int} (h : osB n T = true) (hx : inB x 1 65535 = true) : byK n T x = bestK (flO n T x).length (TL (flO n T x)) ∧ byV n T x = bestV (flO n T x).length (TL (flO n T x)) := by
  have hs := osB_sub (List.filter_sublist (p := keepO x) (l := lsO n T)) (osB_ls h)
  have e1 : byK n T x = bestK (flO n T x).length (TL (flO n T x)) := by
    simp only [byK, bestK, h, hx, Bool.true_and]
    rw [show osB (flO n T x).length (TL (flO n T x)) = true from hs, Bool.true_and]
  refine ⟨e1, ?_⟩
  unfold byV bestV
  rw [e1]
/-- A list out of offers that lie. -/
theorem rowO_list {a : Option Addr} {n : Nat} {T : Nat → Oc} {w : World} (h : RowO a n T w) : ∃ L : List Oe, L.length = n ∧ (∀ i, i < n → (uAt L i).t = T i) ∧ RowU a L w ∧ ∀ i, i < n → OfIn (uAt L i).a0 (uAt L i).a1 (T i) w := by
  have hE : ∃ E : Nat → Oe, ∀ i, i < n → (E i).t = T i ∧ (∃ b off, a = some ⟨b, off, none⟩ ∧ b < w.heap.size ∧ w.cell? ⟨b, off + i * 7, none⟩ = some (.int .i64 (E i).t.pe) ∧ w.cell? ⟨b, off + i * 7 + 1, none⟩ = some (.int .i64 (E i).t.o) ∧ w.cell? ⟨b, off + i * 7 + 2, none⟩ = some (.slice (E i).a0 (E i).t.n0 (E i).c0) ∧ w.cell? ⟨b, off + i * 7 + 3, none⟩ = some (.int .i64 (E i).t.nx) ∧ w.cell? ⟨b, off + i * 7 + 4, none⟩ = some (.int .i64 (E i).t.md) ∧ w.cell? ⟨b, off + i * 7 + 5, none⟩ = some (.int .i64 (E i).t.pf) ∧ w.cell? ⟨b, off + i * 7 + 6, none⟩ = some (.slice (E i).a1 (E i).t.n1 (E i).c1)) ∧ OfIn (E i).a0 (E i).a1 (T i) w := by
    have each : ∀ i, i < n → ∃ e : Oe, e.t = T i ∧ (∃ b off, a = some ⟨b, off, none⟩ ∧ b < w.heap.size ∧ w.cell? ⟨b, off + i * 7, none⟩ = some (.int .i64 e.t.pe) ∧ w.cell? ⟨b, off + i * 7 + 1, none⟩ = some (.int .i64 e.t.o) ∧ w.cell? ⟨b, off + i * 7 + 2, none⟩ = some (.slice e.a0 e.t.n0 e.c0) ∧ w.cell? ⟨b, off + i * 7 + 3, none⟩ = some (.int .i64 e.t.nx) ∧ w.cell? ⟨b, off + i * 7 + 4, none⟩ = some (.int .i64 e.t.md) ∧ w.cell? ⟨b, off + i * 7 + 5, none⟩ = some (.int .i64 e.t.pf) ∧ w.cell? ⟨b, off + i * 7 + 6, none⟩ = some (.slice e.a1 e.t.n1 e.c1)) ∧ OfIn e.a0 e.a1 (T i) w := by
      intro i hi
      obtain ⟨b, off, a0, c0, a1, c1, ha, hb, h0, h1, h2, h3, h4, h5, h6, ht⟩ := h i hi
      exact ⟨⟨T i, a0, c0, a1, c1⟩, rfl, ⟨b, off, ha, hb, h0, h1, h2, h3, h4, h5, h6⟩, ht⟩
    refine ⟨fun i => if hi : i < n then Classical.choose (each i hi) else oe0, fun i hi => ?_⟩
    simp only [dif_pos hi]
    exact Classical.choose_spec (each i hi)
  obtain ⟨E, hE⟩ := hE
  have hlen : ((List.range n).map E).length = n := by simp
  have hat : ∀ i, i < n → uAt ((List.range n).map E) i = E i := by
    intro i hi
    rw [uAt_eq (by rw [hlen]; exact hi)]
    simp
  refine ⟨(List.range n).map E, hlen, fun i hi => ?_, fun i hi => ?_, fun i hi => ?_⟩
  · rw [hat i hi]; exact (hE i hi).1
  · rw [hlen] at hi
    rw [hat i hi]
    exact (hE i hi).2.1
  · rw [hat i hi]; exact (hE i hi).2.2
/-- Offers that lie, out of a list and where the lists are. -/
theorem RowU.offers {a : Option Addr} {L : List Oe} {w : World} (h : RowU a L w) (hi : ∀ e, e ∈ L → OfIn e.a0 e.a1 e.t w) : RowO a L.length (TL (L.map (·.t))) w := by
  intro i hlt
  obtain ⟨b, off, ha, hb, h0, h1, h2, h3, h4, h5, h6⟩ := h i hlt
  have e : TL (L.map (·.t)) i = (uAt L i).t := by
    rw [TL_eq (by simpa using hlt), uAt_eq hlt]
    simp
  rw [e]
  exact ⟨b, off, _, _, _, _, ha, hb, h0, h1, h2, h3, h4, h5, h6, hi _ (uAt_mem hlt)⟩
theorem map_lsO {L : List Oe} {n : Nat} {T : Nat → Oc} (hl : L.length = n) (h : ∀ i, i < n → (uAt L i).t = T i) : L.map (·.t) = lsO n T := by
  apply List.ext_getElem
  · simp [hl, lsO_len]
  · intro i h1 h2
    have hi : i < n := by simpa [lsO_len] using h2
    have := h i hi
    rw [uAt_eq (by omega)] at this
    simp [lsO, this]
theorem filter_map_t (L : List Oe) (p : Oc → Bool) : (L.filter (fun e => p e.t)).map (·.t) = (L.map (·.t)).filter p := by
  rw [List.filter_map]
  rfl
theorem filter_takeU (p : Oe → Bool) {L : List Oe} {k : Nat} (h : k < L.length) : (L.take (k + 1)).filter p = (L.take k).filter p ++ (if p (uAt L k) then [uAt L k] else []) := by
  rw [take_succU h, List.filter_append]
  congr 1
  by_cases e : p (uAt L k) = true
  · simp [e]
  · simp [e]
end Go.Proofs.Ytjjdfniemlcnnaa

namespace Go.Proofs.Ytjjdfniemlcnnaa
open Go.RowKit

set_option maxHeartbeats 400000 in
theorem s_in (n lo hi : Int) (w : World) :
    Calls Try.prog 27 #[.int .i64 n, .int .i64 lo, .int .i64 hi] w fun e w' => e = .returned (.bool (inB n lo hi)) ∧ w' = w := by
  by_cases h1 : lo ≤ n
  · by_cases h2 : n ≤ hi
    · rw [inB_t h1 h2]
      go_enter Try.func27, Try.ntmps27
      go_wp2
      go_ret
      exact ⟨rfl, rfl⟩
    · rw [inB_f2 h2]
      go_enter Try.func27, Try.ntmps27
      go_wp2
      go_ret
      exact ⟨rfl, rfl⟩
  · rw [inB_f1 h1]
    go_enter Try.func27, Try.ntmps27
    go_wp2
    go_ret
    exact ⟨rfl, rfl⟩

set_option maxHeartbeats 400000 in
theorem s_addr (n : Int) (w : World) :
    Calls Try.prog 60 #[.int .i64 n] w fun e w' => e = .returned (.bool (inB n 0 4294967295)) ∧ w' = w := by
  go_enter Try.func60, Try.ntmps60
  go_wp2_with (go_at_call 27; refine (s_in _ _ _ _).mono ?_; rintro e w' ⟨rfl, rfl⟩)
  go_ret
  exact ⟨rfl, rfl⟩

set_option maxHeartbeats 400000 in
theorem s_size (a l : Int) (w : World) (h0 : 0 ≤ l) (h1 : l ≤ 32) :
    Calls Try.prog 61 #[.agg #[.int .i64 a, .int .i64 l]] w fun e w' => e = .returned (.int .i64 (pw l)) ∧ Below w.heap.size w w' := by
  go_enter Try.func61, Try.ntmps61
  go_wp2
  go_ret
  exact ⟨ret_int (pw_wrap l h0), (Below.refl _ _).alloc (Nat.le_refl _) _⟩

set_option maxHeartbeats 800000 in
theorem s_good_in (a l : Int) (w : World) (hl0 : 0 ≤ l) (hl1 : l ≤ 32) (ha0 : 0 ≤ a) (ha1 : a ≤ 4294967295) :
    Calls Try.prog 33 #[.agg #[.int .i64 a, .int .i64 l]] w fun e w' => e = .returned (.bool (a % pw l == 0)) ∧ Below w.heap.size w w' := by
  have p1 := pw_pos l
  have p2 := pw_le l hl0
  have p5 : ¬ pw l = 0 := by omega
  have p6 : a.tmod (pw l) = a % pw l := Int.tmod_eq_emod_of_nonneg ha0
  have i1 := inB_t hl0 hl1
  have i2 := inB_t ha0 ha1
  go_enter Try.func33, Try.ntmps33
  go_wp2_with fail
  go_region_with (first
    | (go_at_call 27; refine (s_in _ _ _ _).mono ?_; rintro e w' ⟨rfl, rfl⟩)
    | (go_at_call 60; refine (s_addr _ _).mono ?_; rintro e w' ⟨rfl, rfl⟩)
    | (go_at_call 61; refine (s_size _ _ _ (by omega) (by omega)).mono ?_; rintro e w' ⟨rfl, hb⟩; obtain ⟨hc, hf⟩ := bcell hb))
  all_goals
    go_wp2
    go_ret
    exact ⟨rfl, ((Below.refl _ _).alloc (Nat.le_refl _) _).drew.trans (hb.mono (by simp))⟩

set_option maxHeartbeats 800000 in
theorem s_good_a (a l : Int) (w : World) (hl0 : 0 ≤ l) (hl1 : l ≤ 32) (ha : ¬ (0 ≤ a ∧ a ≤ 4294967295)) :
    Calls Try.prog 33 #[.agg #[.int .i64 a, .int .i64 l]] w fun e w' => e = .returned (.bool false) ∧ Below w.heap.size w w' := by
  have i1 := inB_t hl0 hl1
  have i2 : inB a 0 4294967295 = false := inB_n ha
  clear ha
  go_enter Try.func33, Try.ntmps33
  go_wp2_with fail
  go_quiet ((first | (go_at_call 27; exact Calls.quiet_of_same (s_in _ _ _ _)) | (go_at_call 60; exact Calls.quiet_of_same (s_addr _ _))))
  go_wp2
  go_ret
  exact ⟨rfl, below_drewN ((Below.refl _ _).alloc (Nat.le_refl _) _) _⟩

set_option maxHeartbeats 800000 in
theorem s_good_l (a l : Int) (w : World) (hl : ¬ (0 ≤ l ∧ l ≤ 32)) :
    Calls Try.prog 33 #[.agg #[.int .i64 a, .int .i64 l]] w fun e w' => e = .returned (.bool false) ∧ Below w.heap.size w w' := by
  have i1 : inB l 0 32 = false := inB_n hl
  clear hl
  go_enter Try.func33, Try.ntmps33
  go_wp2_with fail
  go_quiet ((go_at_call 27; exact Calls.quiet_of_same (s_in _ _ _ _)))
  go_wp2
  go_ret
  exact ⟨rfl, below_drewN ((Below.refl _ _).alloc (Nat.le_refl _) _) _⟩

theorem s_good (a l : Int) (w : World) :
    Calls Try.prog 33 #[.agg #[.int .i64 a, .int .i64 l]] w fun e w' => e = .returned (.bool (goodB a l)) ∧ Below w.heap.size w w' := by
  by_cases hl : 0 ≤ l ∧ l ≤ 32
  · by_cases ha : 0 ≤ a ∧ a ≤ 4294967295
    · rw [goodB_in hl.1 hl.2 ha.1 ha.2]
      exact s_good_in a l w hl.1 hl.2 ha.1 ha.2
    · rw [goodB_a ha]
      exact s_good_a a l w hl.1 hl.2 ha
  · rw [goodB_l hl]
    exact s_good_l a l w hl

end Go.Proofs.Ytjjdfniemlcnnaa
