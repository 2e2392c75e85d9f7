/- Links: arcs with what their labels do; leads and first. -/
import Derived.Test.YtelehmkmdbhcfaaLab9
import Derived.Test.YtelehmkmdbhcfaaArr6
namespace Go.Proofs.Ytelehmkmdbhcfaa
open Go.RowKit

/-- What asks whether a link leads from x to y. -/
def ldV (p q : Nat) : Value := .func (.func 52) #[] #[.pointer (some ⟨p, 0, none⟩), .pointer (some ⟨q, 0, none⟩)]
def LdF (p q : Nat) (x y : Int) (w : World) : Prop := p < w.heap.size ∧ q < w.heap.size ∧ w.cell? ⟨p, 0, none⟩ = some (.int .i64 x) ∧ w.cell? ⟨q, 0, none⟩ = some (.int .i64 y)
theorem LdF.below {p q : Nat} {x y : Int} {w w' : World} (h : LdF p q x y w) (k : Below w.heap.size w w') : LdF p q x y w' :=
  ⟨Nat.lt_of_lt_of_le h.1 k.size, Nat.lt_of_lt_of_le h.2.1 k.size, ((bcell k).1 _ _ h.1).trans h.2.2.1, ((bcell k).1 _ _ h.2.1).trans h.2.2.2⟩
set_option maxRecDepth 100000 in
set_option maxHeartbeats 800000 in
theorem i_leadsC (lf lt : Int) (pk p q : Nat) (x y : Int) (w : World) (h : LdF p q x y w) :
    Calls Try.prog 52 #[.agg #[.int .i64 lf, .int .i64 lt, labV pk], .pointer (some ⟨p, 0, none⟩), .pointer (some ⟨q, 0, none⟩)] w fun e w' => e = .returned (.bool (lf == x && lt == y)) ∧ Below w.heap.size w w' := by
  have dX : Below w.heap.size w (w.alloc (.cells #[.int .i64 lf, .int .i64 lt, labV pk] 65)) := below_box (Below.refl _ _)
  have h1 := h.below dX
  have c0 := h1.2.2.1
  have c1 := h1.2.2.2
  clear h h1
  simp only [labV] at *
  cases hx : lf == x with
  | false =>
    go_enter Try.func52, Try.ntmps52
    go_wp2_with fail
    go_ret
    exact ⟨rfl, dX⟩
  | true =>
    go_enter Try.func52, Try.ntmps52
    go_wp2_with fail
    go_ret
    exact ⟨rfl, dX⟩
set_option maxRecDepth 100000 in
set_option maxHeartbeats 400000 in
theorem i_leads (x y : Int) (w : World) :
    Calls Try.prog 42 #[.int .i64 x, .int .i64 y] w fun e w' => e = .returned (ldV w.heap.size (w.heap.size + 1)) ∧ LdF w.heap.size (w.heap.size + 1) x y w' ∧ Below w.heap.size w w' := by
  have hmf : ∀ (fn : Fn) (first cap : Array Value) (w : World), (Instr.makeFunc fn first cap).run Try.prog w = .ok (.func fn first cap) w := fun _ _ _ _ => rfl
  go_enter Try.func42, Try.ntmps42
  go_wp2_with fail
  go_ret
  exact ⟨rfl, ⟨by simp; omega, by simp, by simp [go_sem], by simp [go_sem]⟩, below_box2 (Below.refl _ _)⟩
/-- A link's cells: arc i, its label's box. -/
def lnkC (f0 f1 f2 : Nat → Int) (P : Nat → Nat) (i : Nat) : List Value := [.int .i64 (f0 i), .int .i64 (f1 i), labV (P (f2 i).toNat)]
theorem lnk_get (f0 f1 f2 : Nat → Int) (P : Nat → Nat) : ∀ (ks : List Nat) (j r : Nat), j < ks.length → r < 3 → (ks.flatMap (lnkC f0 f1 f2 P))[j * 3 + r]? = (lnkC f0 f1 f2 P (ks.getD j 0))[r]?
  | [], j, r, h, _ => by simp at h
  | k :: ks, 0, r, _, hr => by
    rw [List.flatMap_cons, List.getElem?_append_left (by simp [lnkC]; omega)]
    simp
  | k :: ks, j + 1, r, h, hr => by
    rw [List.flatMap_cons, List.getElem?_append_right (by simp [lnkC]; omega)]
    have := lnk_get f0 f1 f2 P ks j r (by simpa using h) hr
    rw [show (j + 1) * 3 + r - (lnkC f0 f1 f2 P k).length = j * 3 + r by simp [lnkC]; omega, this]
    simp
theorem lnk_len (f0 f1 f2 : Nat → Int) (P : Nat → Nat) : ∀ ks : List Nat, (ks.flatMap (lnkC f0 f1 f2 P)).length = ks.length * 3
  | [] => rfl
  | k :: ks => by rw [List.flatMap_cons, List.length_append, lnk_len f0 f1 f2 P ks]; simp [lnkC]; omega
/-- The links ks lie at va. -/
def LnkR (va : Option Addr) (ks : List Nat) (f0 f1 f2 : Nat → Int) (P : Nat → Nat) (w : World) : Prop := ∀ j, j < ks.length → ∃ b off, va = some ⟨b, off, none⟩ ∧ b < w.heap.size ∧ w.cell? ⟨b, off + j * 3, none⟩ = some (.int .i64 (f0 (ks.getD j 0))) ∧ w.cell? ⟨b, off + j * 3 + 1, none⟩ = some (.int .i64 (f1 (ks.getD j 0))) ∧ w.cell? ⟨b, off + j * 3 + 2, none⟩ = some (labV (P (f2 (ks.getD j 0)).toNat))
theorem LnkR.below {va : Option Addr} {ks : List Nat} {f0 f1 f2 : Nat → Int} {P : Nat → Nat} {w w' : World} (h : LnkR va ks f0 f1 f2 P w) (k : Below w.heap.size w w') : LnkR va ks f0 f1 f2 P w' := by
  intro j hj
  obtain ⟨b, off, h1, h2, h3, h4, h5⟩ := h j hj
  obtain ⟨hc, _⟩ := bcell k
  exact ⟨b, off, h1, Nat.lt_of_lt_of_le h2 k.size, (hc _ _ h2).trans h3, (hc _ _ h2).trans h4, (hc _ _ h2).trans h5⟩
theorem LnkR.of {va : Option Addr} {ks : List Nat} {f0 f1 f2 : Nat → Int} {P : Nat → Nat} {w : World} (h : RowW va (ks.flatMap (lnkC f0 f1 f2 P)) w) : LnkR va ks f0 f1 f2 P w := by
  intro j hj
  obtain ⟨b, off, h1, h2, h3⟩ := h (j * 3 + 0) _ ((lnk_get f0 f1 f2 P ks j 0 hj (by omega)).trans rfl)
  obtain ⟨b', off', h1', h2', h4⟩ := h (j * 3 + 1) _ ((lnk_get f0 f1 f2 P ks j 1 hj (by omega)).trans rfl)
  obtain ⟨b'', off'', h1'', h2'', h5⟩ := h (j * 3 + 2) _ ((lnk_get f0 f1 f2 P ks j 2 hj (by omega)).trans rfl)
  subst h1
  simp only [Option.some.injEq, Addr.mk.injEq, and_true] at h1' h1''
  obtain ⟨rfl, rfl⟩ := h1'
  obtain ⟨rfl, rfl⟩ := h1''
  exact ⟨b, off, rfl, h2, h3, h4, h5⟩
theorem sizeLnk : (Try.prog.info? 65).map (·.size) = some 3 := by kernel_rfl
/-- The first link that leads from x to y. -/
noncomputable def fl9 (f0 f1 : Nat → Int) (x y : Int) (ks : List Nat) : Option Nat := ks.find? (fun i => pB (Hit f0 f1 x y i))
/-- What first hands back. -/
def frV (f0 f1 f2 : Nat → Int) (P : Nat → Nat) : Option Nat → Value
  | some i => .tuple #[.agg #[.int .i64 (f0 i), .int .i64 (f1 i), labV (P (f2 i).toNat)], .bool true]
  | none => .tuple #[.agg #[.int .i64 0, .int .i64 0, .nilFunc], .bool false]
theorem fl9_take {f0 f1 : Nat → Int} {x y : Int} {ks : List Nat} {k : Nat} (hk : k < ks.length) (h : ∀ i, i < k → ¬ Hit f0 f1 x y (ks.getD i 0)) (hh : Hit f0 f1 x y (ks.getD k 0)) : fl9 f0 f1 x y ks = some (ks.getD k 0) := by
  unfold fl9
  induction ks generalizing k with
  | nil => simp at hk
  | cons a ks ih =>
    cases k with
    | zero =>
      have hp : pB (Hit f0 f1 x y a) = true := pB_t hh
      simp [hp]
    | succ k =>
      have h0 := h 0 (by omega)
      simp at h0
      have hp : pB (Hit f0 f1 x y a) = false := pB_f h0
      simp only [List.find?_cons, hp]
      have := ih (k := k) (by simpa using hk) (fun i hi => by have := h (i + 1) (by omega); simpa using this) (by simpa using hh)
      simpa using this
theorem fl9_none {f0 f1 : Nat → Int} {x y : Int} {ks : List Nat} (h : ∀ i, i < ks.length → ¬ Hit f0 f1 x y (ks.getD i 0)) : fl9 f0 f1 x y ks = none := by
  unfold fl9
  rw [List.find?_eq_none]
  intro a ha
  obtain ⟨i, hi, rfl⟩ := List.getElem_of_mem ha
  have := h i hi
  rw [List.getD_eq_getElem?_getD, List.getElem?_eq_getElem hi] at this
  simpa using pB_f this
set_option maxRecDepth 100000 in
set_option maxHeartbeats 1600000 in
theorem i_first (va : Option Addr) (vc : Nat) (ks : List Nat) (f0 f1 f2 : Nat → Int) (P : Nat → Nat) (p q : Nat) (x y : Int) (w : World) (hn : ks.length ≤ 20) (hR : LnkR va ks f0 f1 f2 P w) (hL : LdF p q x y w) :
    Calls Try.prog 41 #[.agg #[.slice va ks.length vc], ldV p q] w fun e w' => e = .returned (frV f0 f1 f2 P (fl9 f0 f1 x y ks)) ∧ Below w.heap.size w w' := by
  have hS : Hid (∀ k, k < ks.length → (∀ i, i < k → ¬ Hit f0 f1 x y (ks.getD i 0)) → Hit f0 f1 x y (ks.getD k 0) → fl9 f0 f1 x y ks = some (ks.getD k 0)) := fun k h1 h2 h3 => fl9_take h1 h2 h3
  have hZ : Hid ((∀ i, i < ks.length → ¬ Hit f0 f1 x y (ks.getD i 0)) → fl9 f0 f1 x y ks = none) := fun h => fl9_none h
  generalize fl9 f0 f1 x y ks = r at *
  have MZ := Mut.new (w.alloc (.cells #[.slice va ks.length vc] 56)) #[.int .i64 0, .int .i64 0, .nilFunc] 65
  have dX : Below w.heap.size w ((w.alloc (.cells #[.slice va ks.length vc] 56)).alloc (.cells #[.int .i64 0, .int .i64 0, .nilFunc] 65)) := below_box2 (Below.refl _ _)
  have hnn : (ks.length : Int) ≤ 20 := by omega
  simp only [World.size_alloc] at MZ
  generalize hkl : ks.length = n at *
  simp only [ldV]
  go_enter Try.func41, Try.ntmps41
  go_wp2_with fail
  generalize (w.alloc (.cells #[.slice va n vc] 56)).alloc (.cells #[.int .i64 0, .int .i64 0, .nilFunc] 65) = wx at *
  go_loopw [5, 12] (fun _ y' wr => ∃ k : Nat, y' = .int .i64 k ∧ k ≤ n ∧ Hid (∀ i, i < k → ¬ Hit f0 f1 x y (ks.getD i 0)) ∧ Below w.heap.size w wr ∧ Mut wr (w.heap.size + 1) [.int .i64 0, .int .i64 0, .nilFunc]) (fun _ y' _ => n - (intOf y').toNat)
  case atStart => exact ⟨0, rfl, Nat.zero_le _, fun i hi => absurd hi (by omega), dX, MZ⟩
  case round =>
    clear MZ dX
    obtain ⟨k, rfl, hk, hall, hb, MZ⟩ := hrel
    by_cases hlt : k < n
    · obtain ⟨b, off, rfl, hbw, u0, u1, u2⟩ := hR k (by omega)
      replace u0 := (hb.cell (p := ⟨b, off + k * 3, none⟩) hbw).trans u0
      replace u1 := (hb.cell (p := ⟨b, off + k * 3 + 1, none⟩) hbw).trans u1
      replace u2 := (hb.cell (p := ⟨b, off + k * 3 + 2, none⟩) hbw).trans u2
      have hlt' : (k : Int) < (n : Int) := by omega
      have AP := hide (fun w Q => i_leadsC (f0 (ks.getD k 0)) (f1 (ks.getD k 0)) (P (f2 (ks.getD k 0)).toNat) p q x y w Q)
      have hNext : Hid (¬ Hit f0 f1 x y (ks.getD k 0) → ∀ i, i < k + 1 → ¬ Hit f0 f1 x y (ks.getD i 0)) := fun h i hi => by
        by_cases e : i = k
        · subst e; exact h
        · exact hall.out i (by omega)
      have hHit : Hid (Hit f0 f1 x y (ks.getD k 0) → r = some (ks.getD k 0)) := fun h => hS.out k hlt hall.out h
      clear hall hS hZ hR
      generalize ks.getD k 0 = i at *
      simp only [labV] at *
      have dZ : Below w.heap.size w (wr.alloc (.cells #[.int .i64 (f0 i), .int .i64 (f1 i), .func (.func 56) #[] #[.pointer (some ⟨P (f2 i).toNat, 0, none⟩)]] 65)) := hb.alloc hb.size _
      have hL9 := hide (hL.below dZ)
      have lt1 := MZ.1
      by_cases hh : Hit f0 f1 x y i
      · have hV : Hid (frV f0 f1 f2 P r = .tuple #[.agg #[.int .i64 (f0 i), .int .i64 (f1 i), .func (.func 56) #[] #[.pointer (some ⟨P (f2 i).toNat, 0, none⟩)]], .bool true]) := by
          show frV f0 f1 f2 P r = _
          rw [hHit.out hh]; rfl
        rw [show (f0 i == x && f1 i == y) = true by simp [hh.1, hh.2]] at AP
        clear hNext hHit hh
        generalize f0 i = lf at *
        generalize f1 i = lt at *
        generalize P (f2 i).toNat = pk at *
        go_wp2_with (first | (have hq := MZ3; refine wpList_storeM rfl rfl rfl rfl MZ3 rfl (by intro v hv; simp only [List.mem_cons, List.not_mem_nil, or_false] at hv; rcases hv with rfl | rfl | rfl <;> rfl) sizeLnk ?_; intro w4 hM4 hO4; have y0 := hM4.2.1 0 _ rfl; have y1 := hM4.2.1 1 _ rfl; have y2 := hM4.2.1 2 _ rfl; have d4 : Below w.heap.size w w4 := d3.trans ((hO4.below (Nat.le_of_lt MZ3.1)).mono (by omega))) | (refine wpList_storeM rfl rfl rfl rfl (Mut.new _ _ _) rfl (by intro v hv; simp only [List.mem_cons, List.not_mem_nil, or_false] at hv; rcases hv with rfl | rfl | rfl <;> rfl) sizeLnk ?_; intro w2 hM hO; have v0 := hM.2.1 0 _ rfl; have v1 := hM.2.1 1 _ rfl; have v2 := hM.2.1 2 _ rfl; have d2 : Below w.heap.size w w2 := (hb.alloc hb.size _).trans ((hO.below (by simp)).mono hb.size); have MZ2 := (MZ.alloc _).only hO (by omega)) | (go_at_call 52; refine (AP.out _ (hL.below d2)).mono ?_; rintro e w3 ⟨rfl, b3⟩; have d3 := d2.trans (b3.mono d2.size); have MZ3 := MZ2.below b3; have hM3 := hM.below b3; have x0 := hM3.2.1 0 _ rfl; have x1 := hM3.2.1 1 _ rfl; have x2 := hM3.2.1 2 _ rfl))
        exact bodyPost_ret (v := .tuple #[.agg #[.int .i64 lf, .int .i64 lt, .func (.func 56) #[] #[.pointer (some ⟨pk, 0, none⟩)]], .bool true]) (by simp [results, Try.results41, go_sem, y0, y1, y2]) rfl ⟨by rw [hV.out], d4⟩
      · have hN := hide (hNext.out hh)
        rw [show (f0 i == x && f1 i == y) = false by
          unfold Hit at hh
          by_cases e : f0 i = x
          · simp [e]; exact fun h => hh ⟨e, h⟩
          · simp [e]] at AP
        clear hNext hHit hh
        generalize f0 i = lf at *
        generalize f1 i = lt at *
        generalize P (f2 i).toNat = pk at *
        go_wp2_with (first | (have hq := MZ3; refine wpList_storeM rfl rfl rfl rfl MZ3 rfl (by intro v hv; simp only [List.mem_cons, List.not_mem_nil, or_false] at hv; rcases hv with rfl | rfl | rfl <;> rfl) sizeLnk ?_; intro w4 hM4 hO4; have y0 := hM4.2.1 0 _ rfl; have y1 := hM4.2.1 1 _ rfl; have y2 := hM4.2.1 2 _ rfl; have d4 : Below w.heap.size w w4 := d3.trans ((hO4.below (Nat.le_of_lt MZ3.1)).mono (by omega))) | (refine wpList_storeM rfl rfl rfl rfl (Mut.new _ _ _) rfl (by intro v hv; simp only [List.mem_cons, List.not_mem_nil, or_false] at hv; rcases hv with rfl | rfl | rfl <;> rfl) sizeLnk ?_; intro w2 hM hO; have v0 := hM.2.1 0 _ rfl; have v1 := hM.2.1 1 _ rfl; have v2 := hM.2.1 2 _ rfl; have d2 : Below w.heap.size w w2 := (hb.alloc hb.size _).trans ((hO.below (by simp)).mono hb.size); have MZ2 := (MZ.alloc _).only hO (by omega)) | (go_at_call 52; refine (AP.out _ (hL.below d2)).mono ?_; rintro e w3 ⟨rfl, b3⟩; have d3 := d2.trans (b3.mono d2.size); have MZ3 := MZ2.below b3; have hM3 := hM.below b3; have x0 := hM3.2.1 0 _ rfl; have x1 := hM3.2.1 1 _ rfl; have x2 := hM3.2.1 2 _ rfl))
        exact ⟨⟨k + 1, by go_num, by omega, hN, d3, MZ3⟩, by simp [intOf]; omega⟩
    · have hlt' : ¬ (k : Int) < (n : Int) := by omega
      obtain rfl : k = n := by omega
      have hV : Hid (frV f0 f1 f2 P r = .tuple #[.agg #[.int .i64 0, .int .i64 0, .nilFunc], .bool false]) := by
        show frV f0 f1 f2 P r = _
        rw [hZ.out hall.out]; rfl
      have lt1 := MZ.1
      clear hall hS hZ hR
      go_wp2_with (first | (refine wpList_storeM rfl rfl rfl rfl (MZ.alloc _) rfl (by intro v hv; simp only [List.mem_cons, List.not_mem_nil, or_false] at hv; rcases hv with rfl | rfl | rfl <;> rfl) sizeLnk ?_; intro w4 hM4 hO4; have y0 := hM4.2.1 0 _ rfl; have y1 := hM4.2.1 1 _ rfl; have y2 := hM4.2.1 2 _ rfl; have d4 : Below w.heap.size w w4 := (hb.alloc hb.size _).trans ((hO4.below (Nat.le_of_lt (MZ.alloc _).1)).mono (by omega))))
      exact bodyPost_ret (v := .tuple #[.agg #[.int .i64 0, .int .i64 0, .nilFunc], .bool false]) (by simp [results, Try.results41, go_sem, y0, y1, y2]) rfl ⟨by rw [hV.out], d4⟩
end Go.Proofs.Ytelehmkmdbhcfaa
