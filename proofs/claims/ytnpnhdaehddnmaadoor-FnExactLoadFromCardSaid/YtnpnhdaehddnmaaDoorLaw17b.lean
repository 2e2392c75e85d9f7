/- Disks in memory; what the laws do with them: how large, handed over, compared, marked, held. -/
import Derived.Test.YtnpnhdaehddnmaaDoorLaw17a
import Derived.Test.YtnpnhdaehddnmaaDoorPlain17
namespace Go.Proofs.YtnpnhdaehddnmaaDoor
open Go.RowKit

/-- A disk: its sectors, what waits. -/
structure Dk where
  n : Nat
  f : Nat → ByteArray
  m : Nat
  A : Nat → Int
  D : Nat → ByteArray
/-- A disk that can be read. -/
def RowD (a b : Option Addr) (d : Dk) (w : World) : Prop := RowStr a d.n d.f w ∧ RowWrite b d.m d.A d.D w
theorem RowD.below {a b : Option Addr} {d : Dk} {w w' : World} (h : RowD a b d w) (k : Below w.heap.size w w') : RowD a b d w' := ⟨h.1.below k, h.2.below k⟩
/-- A disk whose lists lie in blocks of P, each in its own, and may be written. -/
def OwnD (P : Nat → Prop) (a b : Option Addr) (d : Dk) (w : World) : Prop :=
  (0 < d.n → ∃ g, a = some ⟨g, 0, none⟩ ∧ P g ∧ OutStr g d.n d.n d.f w) ∧ (0 < d.m → ∃ g, b = some ⟨g, 0, none⟩ ∧ P g ∧ OutWrite g d.m d.m d.A d.D w) ∧ (0 < d.n → 0 < d.m → a ≠ b)
theorem RowStr.zero {a : Option Addr} {f : Nat → ByteArray} {w : World} : RowStr a 0 f w := fun _ hi => absurd hi (Nat.not_lt_zero _)
theorem RowWrite.zero {a : Option Addr} {A : Nat → Int} {D : Nat → ByteArray} {w : World} : RowWrite a 0 A D w := fun _ hi => absurd hi (Nat.not_lt_zero _)
theorem OwnD.row {P : Nat → Prop} {a b : Option Addr} {d : Dk} {w : World} (h : OwnD P a b d w) : RowD a b d w := by
  refine ⟨?_, ?_⟩
  · rcases Nat.eq_zero_or_pos d.n with e | e
    · rw [e]; exact RowStr.zero
    · obtain ⟨g, rfl, _, o⟩ := h.1 e
      exact o.row
  · rcases Nat.eq_zero_or_pos d.m with e | e
    · rw [e]; exact RowWrite.zero
    · obtain ⟨g, rfl, _, o⟩ := h.2.1 e
      exact o.row
theorem OwnD.below {P : Nat → Prop} {a b : Option Addr} {d : Dk} {w w' : World} (h : OwnD P a b d w) (k : Below w.heap.size w w') : OwnD P a b d w' :=
  ⟨fun e => (h.1 e).imp fun _ z => ⟨z.1, z.2.1, z.2.2.below k⟩, fun e => (h.2.1 e).imp fun _ z => ⟨z.1, z.2.1, z.2.2.below k⟩, h.2.2⟩
theorem OwnD.mono {P Q : Nat → Prop} {a b : Option Addr} {d : Dk} {w : World} (h : OwnD P a b d w) (k : ∀ x, P x → Q x) : OwnD Q a b d w :=
  ⟨fun e => (h.1 e).imp fun _ z => ⟨z.1, k _ z.2.1, z.2.2⟩, fun e => (h.2.1 e).imp fun _ z => ⟨z.1, k _ z.2.1, z.2.2⟩, h.2.2⟩
theorem OutStr.onlyP17 {P : Nat → Prop} {c n k : Nat} {f : Nat → ByteArray} {w w' : World} (h : OutStr c n k f w) (b : OnlyP P w w') (hn : ¬ P c) : OutStr c n k f w' := by
  refine ⟨Nat.lt_of_lt_of_le h.1 b.2.2.2.1, fun i hi => ?_⟩
  obtain ⟨⟨x, hx, hk⟩, g⟩ := h.2 i hi
  exact ⟨⟨x, (b.cell h.1 hn).trans hx, hk⟩, (b.frozen h.1 hn).trans g⟩
theorem OutWrite.onlyP17 {P : Nat → Prop} {c n k : Nat} {A : Nat → Int} {D : Nat → ByteArray} {w w' : World} (h : OutWrite c n k A D w) (b : OnlyP P w w') (hn : ¬ P c) : OutWrite c n k A D w' := by
  refine ⟨Nat.lt_of_lt_of_le h.1 b.2.2.2.1, fun i hi => ?_⟩
  obtain ⟨⟨x, y, hx, hy, hk⟩, g0, g1⟩ := h.2 i hi
  exact ⟨⟨x, y, (b.cell h.1 hn).trans hx, (b.cell h.1 hn).trans hy, hk⟩, (b.frozen h.1 hn).trans g0, (b.frozen h.1 hn).trans g1⟩
theorem OwnD.onlyP {P Q : Nat → Prop} {a b : Option Addr} {d : Dk} {w w' : World} (h : OwnD P a b d w) (k : OnlyP Q w w') (hn : ∀ x, P x → ¬ Q x) : OwnD P a b d w' :=
  ⟨fun e => (h.1 e).imp fun _ z => ⟨z.1, z.2.1, z.2.2.onlyP17 k (hn _ z.2.1)⟩, fun e => (h.2.1 e).imp fun _ z => ⟨z.1, z.2.1, z.2.2.onlyP17 k (hn _ z.2.1)⟩, h.2.2⟩
/-- A disk whose lists lie in blocks from lo to hi. -/
def AnsD (lo hi : Nat) (a b : Option Addr) (d : Dk) (w : World) : Prop := hi ≤ w.heap.size ∧ OwnD (fun z => lo ≤ z ∧ z < hi) a b d w
theorem AnsD.row {lo hi : Nat} {a b : Option Addr} {d : Dk} {w : World} (h : AnsD lo hi a b d w) : RowD a b d w := h.2.row
theorem AnsD.below {lo hi : Nat} {a b : Option Addr} {d : Dk} {w w' : World} (h : AnsD lo hi a b d w) (k : Below w.heap.size w w') : AnsD lo hi a b d w' := ⟨Nat.le_trans h.1 k.size, h.2.below k⟩
theorem AnsD.onlyP {lo hi : Nat} {Q : Nat → Prop} {a b : Option Addr} {d : Dk} {w w' : World} (h : AnsD lo hi a b d w) (k : OnlyP Q w w') (hn : ∀ x, lo ≤ x → x < hi → ¬ Q x) : AnsD lo hi a b d w' := ⟨Nat.le_trans h.1 k.2.2.2.1, h.2.onlyP k (fun x hx => hn x hx.1 hx.2)⟩
theorem AnsD.wide {lo hi lo' hi' : Nat} {a b : Option Addr} {d : Dk} {w : World} (h : AnsD lo hi a b d w) (h1 : lo' ≤ lo) (h2 : hi ≤ hi') (h3 : hi' ≤ w.heap.size) : AnsD lo' hi' a b d w := ⟨h3, h.2.mono (fun _ hx => ⟨Nat.le_trans h1 hx.1, Nat.lt_of_lt_of_le hx.2 h2⟩)⟩
theorem OnlyP.set17 {P : Nat → Prop} {w w' : World} (h : OnlyP P w w') {c : Nat} (hc : P c) (o : Nat) (v : Value) : OnlyP P w (w'.setCell ⟨c, o, none⟩ v) :=
  h.trans (OnlyP.of_only ((Only.refl c w').setCell o v) hc)
/-- The disk without anything. -/
def zD : Dk := ⟨0, fun _ => ByteArray.empty, 0, fun _ => 0, fun _ => ByteArray.empty⟩
theorem AnsD.zero (lo hi : Nat) (a b : Option Addr) {w : World} (h : hi ≤ w.heap.size) : AnsD lo hi a b zD w := ⟨h, fun z => absurd z (Nat.lt_irrefl _), fun z => absurd z (Nat.lt_irrefl _), fun z => absurd z (Nat.lt_irrefl _)⟩
/-- A marked disk. -/
def mkD (k : Nat) (d : Dk) : Dk := ⟨d.n, fun i => mt (k + i), d.m, fun i => ((k + d.n + 2 * i : Nat) : Int), fun i => mt (k + d.n + 2 * i + 1)⟩
set_option maxRecDepth 100000 in
set_option maxHeartbeats 1600000 in
theorem w_szDisk (a b : Option Addr) (c e : Nat) (d : Dk) (w : World) (hn : d.n ≤ maxLen) (hm : d.m ≤ maxLen) (hf : ∀ i, i < d.n → (d.f i).size ≤ maxLen) (hD : ∀ i, i < d.m → (d.D i).size ≤ maxLen) (hR : RowD a b d w) :
    Calls Tryd.prog 6 #[.agg #[.slice a d.n c, .slice b d.m e], .int .i64 1048576] w fun e w' => ∃ r : Int, e = .returned (.int .i64 r) ∧ (r = -1 ∨ (0 ≤ r ∧ d.n ≤ 1048576 ∧ d.m ≤ 1048576 ∧ (∀ i, i < d.n → (d.f i).size ≤ 1048576) ∧ ∀ i, i < d.m → (d.D i).size ≤ 1048576)) ∧ Below w.heap.size w w' := by
  obtain ⟨n, f, m, A, D⟩ := d
  obtain ⟨hR1, hR2⟩ := hR
  dsimp only at *
  have Z1 := hide (fun w R => w_szStrS a n c f 1048576 w hn (by omega) (by omega) R hf)
  have Z2 := hide (fun r w h0 h1 R => w_szWriteS b m e A D r w hm h0 h1 R hD)
  have M := Mut.new w #[.slice a n c, .slice b m e] 25
  have d0 : Below w.heap.size w (w.alloc (.cells #[.slice a n c, .slice b m e] 25)) := below_box (Below.refl _ _)
  clear hn hm hf hD
  go_enter Tryd.func6, Tryd.ntmps6
  go_wp2_with fail
  refine (Z1.out _ (hR1.below d0)).mono ?_
  rintro ex w1 ⟨r, rfl, hr, b1⟩
  replace M := M.below b1
  have d1 := below_step d0 b1
  clear b1 Z1 d0
  have u1 := M.2.1 1 _ rfl
  rcases hr with rfl | ⟨r0, r1, r2⟩
  · go_wp2_with fail
    go_ret
    exact ⟨-1, rfl, .inl rfl, d1⟩
  have hp : ¬ (r < 0) := by omega
  replace r2 := hide r2
  go_wp2_with fail
  refine (Z2.out r _ (by omega) (by omega) (hR2.below d1)).mono ?_
  rintro ex w2 ⟨q, rfl, hq, b2⟩
  have d2 := below_step d1 b2
  clear b2 Z2 d1 u1 M
  rcases hq with rfl | ⟨q0, q1, q2, q3⟩
  · go_wp2_with fail
    go_ret
    exact ⟨-1, rfl, .inl rfl, d2⟩
  have hp2 : ¬ (q < 0) := by omega
  replace q3 := hide q3
  go_wp2_with fail
  go_ret
  exact ⟨q, rfl, .inr ⟨q0, by omega, q2, r2.out, q3.out⟩, d2⟩
set_option maxRecDepth 100000 in
set_option maxHeartbeats 1600000 in
theorem w_toDisk (a b : Option Addr) (c e : Nat) (d : Dk) (w : World) (hn : d.n ≤ 1048576) (hm : d.m ≤ 1048576) (hR : RowD a b d w) :
    Calls Tryd.prog 8 #[.agg #[.slice a d.n c, .slice b d.m e]] w fun ex w' => ∃ x y, ex = .returned (.agg #[.slice (some ⟨x, 0, none⟩) d.n d.n, .slice (some ⟨y, 0, none⟩) d.m d.m]) ∧ AnsD w.heap.size w'.heap.size (some ⟨x, 0, none⟩) (some ⟨y, 0, none⟩) d w' ∧ Below w.heap.size w w' := by
  obtain ⟨n, f, m, A, D⟩ := d
  obtain ⟨hR1, hR2⟩ := hR
  dsimp only at *
  have T1 := hide (fun w R => w_toStringS a n c f w hn R)
  have T2 := hide (fun w R => w_toWriteS b m e A D w hm R)
  have M0 := ((Mut.new w #[.slice a n c, .slice b m e] 25).alloc (.cells #[.slice none 0 0, .slice none 0 0] 31)).alloc (.cells #[.slice none 0 0, .slice none 0 0] 31)
  have M1 := (Mut.new (w.alloc (.cells #[.slice a n c, .slice b m e] 25)) #[.slice none 0 0, .slice none 0 0] 31).alloc (.cells #[.slice none 0 0, .slice none 0 0] 31)
  have M2 := Mut.new ((w.alloc (.cells #[.slice a n c, .slice b m e] 25)).alloc (.cells #[.slice none 0 0, .slice none 0 0] 31)) #[.slice none 0 0, .slice none 0 0] 31
  clear hn hm
  have d0 : Below w.heap.size w (((w.alloc (.cells #[.slice a n c, .slice b m e] 25)).alloc (.cells #[.slice none 0 0, .slice none 0 0] 31)).alloc (.cells #[.slice none 0 0, .slice none 0 0] 31)) := below_box3 (Below.refl _ _)
  simp only [World.size_alloc] at M1 M2
  go_enter Tryd.func8, Tryd.ntmps8
  go_wp2_with fail
  generalize ((w.alloc (.cells #[.slice a n c, .slice b m e] 25)).alloc (.cells #[.slice none 0 0, .slice none 0 0] 31)).alloc (.cells #[.slice none 0 0, .slice none 0 0] 31) = w0 at *
  have hw0 : w.heap.size + 3 ≤ w0.heap.size := by have := M2.1; omega
  refine (T1.out _ (hR1.below d0)).mono ?_
  rintro ex w1 ⟨rfl, bb, O1⟩
  have z1 := bb.size
  replace M0 := M0.below bb
  replace M1 := M1.below bb
  replace M2 := M2.below bb
  have d1 := d0.trans (bb.mono d0.size)
  clear bb d0 T1
  generalize hs0 : w0.heap.size = b0 at *
  have v0 := M2.2.1 0 _ rfl
  have x0 := M2.2.2 0 (by simp)
  have u1 := M0.2.1 1 _ rfl
  go_wp2_with fail
  have on : OnlyP (fun k => k = w.heap.size + 1 + 1) w1 (w1.setCell ⟨w.heap.size + 1 + 1, 0, none⟩ (.slice (some ⟨b0, 0, none⟩) n n)) := OnlyP.of_only ((Only.refl (w.heap.size + 1 + 1) w1).setCell _ _) rfl
  replace M2 := M2.set 0 (.slice (some ⟨b0, 0, none⟩) n n)
  replace M1 := M1.onlyP on (by omega)
  replace M0 := M0.onlyP on (by omega)
  replace O1 := O1.onlyP17 on (by omega)
  replace d1 := d1.setCell (p := ⟨w.heap.size + 1 + 1, 0, none⟩) (by simp; omega) (.slice (some ⟨b0, 0, none⟩) n n)
  have hw2 : (w1.setCell ⟨w.heap.size + 1 + 1, 0, none⟩ (.slice (some ⟨b0, 0, none⟩) n n)).heap.size = w1.heap.size := by simp
  clear on v0 x0 u1
  generalize w1.setCell ⟨w.heap.size + 1 + 1, 0, none⟩ (.slice (some ⟨b0, 0, none⟩) n n) = w2 at *
  rw [← hw2] at z1
  clear hw2
  have o1l := O1.1
  refine (T2.out _ (hR2.below d1)).mono ?_
  rintro ex w3 ⟨rfl, bb, O2⟩
  have z2 := bb.size
  replace M0 := M0.below bb
  replace M1 := M1.below bb
  replace M2 := M2.below bb
  replace O1 := O1.below bb
  have d3 := d1.trans (bb.mono d1.size)
  clear bb d1 T2
  generalize hs2 : w2.heap.size = b2 at *
  have v0 := M2.2.1 0 _ rfl
  have v1 := M2.2.1 1 _ rfl
  have x1 := M2.2.2 1 (by simp)
  have y0 := M1.2.1 0 _ rfl
  have f0 := M1.2.2 0 (by simp)
  have y1 := M1.2.1 1 _ rfl
  have f1 := M1.2.2 1 (by simp)
  have o2l := O2.1
  clear M0 M1 M2
  go_wp2_with fail
  refine bodyPost_ret (v := .agg #[.slice (some ⟨b0, 0, none⟩) n n, .slice (some ⟨b2, 0, none⟩) m m]) (by simp [results, Tryd.results8, go_sem, *]) rfl ⟨b0, b2, rfl, ?_, ?_⟩
  · refine AnsD.onlyP (Q := fun k => k = w.heap.size + 1 + 1 ∨ k = w.heap.size + 1) (w := w3) (lo := b0) (hi := w3.heap.size) ?_ ?_ ?_ |>.wide (by omega) (by simp) (by simp)
    · exact ⟨Nat.le_refl _, fun _ => ⟨b0, rfl, ⟨Nat.le_refl _, by omega⟩, O1⟩, fun _ => ⟨b2, rfl, ⟨by omega, o2l⟩, O2⟩, fun _ _ h => by first | (simp at h; omega) | simp at h⟩
    · repeat (first | refine OnlyP.set17 ?_ (.inl rfl) _ _ | refine OnlyP.set17 ?_ (.inr rfl) _ _)
      exact OnlyP.refl _ _
    · intro k hk1 hk2 e
      omega
  · refine Below.setCell (Below.setCell (Below.setCell d3 ?_ _) ?_ _) ?_ _ <;> (simp; try omega)
set_option maxRecDepth 100000 in
set_option maxHeartbeats 1600000 in
theorem w_eqDisk (a b a' b' : Option Addr) (c e c' e' : Nat) (d : Dk) (w : World) (hn : d.n ≤ 1048576) (hm : d.m ≤ 1048576) (hR : RowD a b d w) (hR' : RowD a' b' d w) :
    Calls Tryd.prog 10 #[.agg #[.slice a d.n c, .slice b d.m e], .agg #[.slice a' d.n c', .slice b' d.m e']] w fun e w' => e = .returned (.bool true) ∧ Below w.heap.size w w' := by
  obtain ⟨n, f, m, A, D⟩ := d
  obtain ⟨hR1, hR2⟩ := hR
  obtain ⟨hR3, hR4⟩ := hR'
  dsimp only at *
  have E1 := hide (fun w R R' => w_eqStringS a a' n c c' f w (by omega) R R')
  have E2 := hide (fun w R R' => w_eqWriteS b b' m e e' A D w hm R R')
  have M0 := (Mut.new w #[.slice a n c, .slice b m e] 31).alloc (.cells #[.slice a' n c', .slice b' m e'] 31)
  have M1 := Mut.new (w.alloc (.cells #[.slice a n c, .slice b m e] 31)) #[.slice a' n c', .slice b' m e'] 31
  have d0 : Below w.heap.size w ((w.alloc (.cells #[.slice a n c, .slice b m e] 31)).alloc (.cells #[.slice a' n c', .slice b' m e'] 31)) := below_box2 (Below.refl _ _)
  clear hn hm
  go_enter Tryd.func10, Tryd.ntmps10
  go_wp2_with fail
  refine (E1.out _ (hR1.below d0) (hR3.below d0)).mono ?_
  rintro ex w1 ⟨rfl, b1⟩
  have u1 := (M0.below b1).2.1 1 _ rfl
  have v1 := (M1.below b1).2.1 1 _ rfl
  simp only [World.size_alloc] at v1
  have d1 := below_step d0 b1
  clear b1 M0 M1 d0 E1
  go_wp2_with fail
  refine (E2.out _ (hR2.below d1) (hR4.below d1)).mono ?_
  rintro ex w2 ⟨rfl, b2⟩
  have d2 := below_step d1 b2
  go_wp2_with fail
  go_ret
  exact ⟨rfl, d2⟩
set_option maxRecDepth 100000 in
set_option maxHeartbeats 1600000 in
theorem w_markDisk (lo hi : Nat) (a b : Option Addr) (c e : Nat) (d : Dk) (k : Nat) (w : World) (hn : d.n ≤ 1048576) (hm : d.m ≤ 1048576) (h0 : 1 ≤ k) (h1 : k ≤ 10000000) (hO : AnsD lo hi a b d w) :
    Calls Tryd.prog 14 #[.agg #[.slice a d.n c, .slice b d.m e], .int .i64 k] w fun ex w' => ex = .returned (.int .i64 ((k + d.n + 2 * d.m : Nat) : Int)) ∧ AnsD lo hi a b (mkD k d) w' ∧ OnlyP (fun z => lo ≤ z ∧ z < hi) w w' := by
  generalize hP : (fun z => lo ≤ z ∧ z < hi) = P
  have MS : Hid (∀ w, OwnD P a b d w → Calls Tryd.prog 35 #[.slice a d.n c, .int .i64 k] w fun ex w' => ex = .returned (.int .i64 ((k + d.n : Nat) : Int)) ∧ OwnD P a b ⟨d.n, fun i => mt (k + i), d.m, d.A, d.D⟩ w' ∧ OnlyP P w w') := by
    intro w h
    rcases Nat.eq_zero_or_pos d.n with e0 | e0
    · rw [e0]
      refine (w_markStringS_nil a c k w).mono ?_
      rintro ex w' ⟨rfl, rfl⟩
      exact ⟨by simp, ⟨fun z => absurd z (Nat.lt_irrefl _), h.2.1, fun z => absurd z (Nat.lt_irrefl _)⟩, OnlyP.refl _ _⟩
    · obtain ⟨g, rfl, hP, o⟩ := h.1 e0
      refine (w_markStringS g d.n c d.f k w (by omega) (by omega) (by omega) o).mono ?_
      rintro ex w' ⟨rfl, hy, o'⟩
      have hy := OnlyP.of_only (P := fun z => z = g) hy rfl
      refine ⟨ret_int (by omega), ⟨fun _ => ⟨g, rfl, hP, o'⟩, fun z => ?_, h.2.2⟩, ⟨hy.1, hy.2.1, hy.2.2.1, hy.2.2.2.1, fun x hx hn => hy.2.2.2.2 x hx (fun q => hn (by have q : x = g := q; rw [q]; exact hP))⟩⟩
      obtain ⟨g', rfl, hP', o2⟩ := h.2.1 z
      exact ⟨g', rfl, hP', o2.onlyP17 hy (fun q => h.2.2 e0 z (by have q : g' = g := q; rw [q]))⟩
  have MW : Hid (∀ d' : Dk, d'.n = d.n → d'.m = d.m → ∀ w, OwnD P a b d' w → Calls Tryd.prog 15 #[.slice b d.m e, .int .i64 ((k + d.n : Nat) : Int)] w fun ex w' => ex = .returned (.int .i64 ((k + d.n + 2 * d.m : Nat) : Int)) ∧ OwnD P a b ⟨d.n, d'.f, d.m, fun i => ((k + d.n + 2 * i : Nat) : Int), fun i => mt (k + d.n + 2 * i + 1)⟩ w' ∧ OnlyP P w w') := by
    intro d' en em w h
    rw [← em, ← en]
    rw [← em] at hm
    rw [← en] at hn
    rcases Nat.eq_zero_or_pos d'.m with e0 | e0
    · rw [e0]
      refine (w_markWriteS_nil b e (k + d'.n) w).mono ?_
      rintro ex w' ⟨rfl, rfl⟩
      exact ⟨ret_int (by omega), ⟨h.1, fun z => absurd z (Nat.lt_irrefl _), fun _ z => absurd z (Nat.lt_irrefl _)⟩, OnlyP.refl _ _⟩
    · obtain ⟨g, rfl, hP, o⟩ := h.2.1 e0
      refine (w_markWriteS_full g d'.m e d'.A d'.D (k + d'.n) w (by omega) (by omega) (by omega) o).mono ?_
      rintro ex w' ⟨rfl, hy, o'⟩
      have hy := OnlyP.of_only (P := fun z => z = g) hy rfl
      refine ⟨ret_int (by omega), ⟨fun z => ?_, fun _ => ⟨g, rfl, hP, o'⟩, h.2.2⟩, ⟨hy.1, hy.2.1, hy.2.2.1, hy.2.2.2.1, fun x hx hn => hy.2.2.2.2 x hx (fun q => hn (by have q : x = g := q; rw [q]; exact hP))⟩⟩
      obtain ⟨g', rfl, hP', o2⟩ := h.1 z
      exact ⟨g', rfl, hP', o2.onlyP17 hy (fun q => h.2.2 z e0 (by have q : g' = g := q; rw [q]))⟩
  have M := Mut.new w #[.slice a d.n c, .slice b d.m e] 31
  have d0 : Below w.heap.size w (w.alloc (.cells #[.slice a d.n c, .slice b d.m e] 31)) := below_box (Below.refl _ _)
  have hPw : ¬ P w.heap.size := by rw [← hP]; have := hO.1; simp only; omega
  have hO2 : OwnD P a b d w := by rw [← hP]; exact hO.2
  have hfin : Hid (∀ w', OwnD P a b (mkD k d) w' → w.heap.size ≤ w'.heap.size → AnsD lo hi a b (mkD k d) w') := fun w' o hz => ⟨Nat.le_trans hO.1 hz, by rw [hP]; exact o⟩
  have hmk : Hid (mkD k d = ⟨d.n, fun i => mt (k + i), d.m, fun i => ((k + d.n + 2 * i : Nat) : Int), fun i => mt (k + d.n + 2 * i + 1)⟩) := rfl
  have MW := hide (MW.out ⟨d.n, fun i => mt (k + i), d.m, d.A, d.D⟩ rfl rfl)
  have O0 := OnlyP.of_below (P := P) d0
  replace hO2 := hO2.below d0
  clear hO hn hm hP
  generalize ((k + d.n : Nat) : Int) = K1 at *
  generalize ((k + d.n + 2 * d.m : Nat) : Int) = K2 at *
  go_enter Tryd.func14, Tryd.ntmps14
  go_wp2_with fail
  generalize w.alloc (.cells #[.slice a d.n c, .slice b d.m e] 31) = w0 at *
  refine (MS.out _ hO2).mono ?_
  rintro ex w1 ⟨rfl, B1, yy⟩
  replace M := M.onlyP yy hPw
  have O1 := O0.trans yy
  clear MS yy O0 d0 hO2
  have u1 := M.2.1 1 _ rfl
  go_wp2_with fail
  refine (MW.out _ B1).mono ?_
  rintro ex w2 ⟨rfl, B2, yy⟩
  have O2 := O1.trans yy
  rw [← hmk.out] at B2
  have F := hide (hfin.out _ B2 O2.2.2.2.1)
  clear hfin hmk MW yy B1 B2 u1 M
  go_wp2_with fail
  go_ret
  exact ⟨rfl, F.out, O2⟩
end Go.Proofs.YtnpnhdaehddnmaaDoor
