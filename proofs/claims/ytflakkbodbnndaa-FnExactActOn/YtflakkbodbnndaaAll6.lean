/- A route as an answer: its marks, looked at again. -/
import Derived.Test.YtflakkbodbnndaaAll5
import Derived.Test.YtflakkbodbnndaaI4
import Derived.Laws.CopyOwn
import Derived.Deep.RegionHeld3
import Derived.Lib.SliceRun
import Derived.Test.YtflakkbodbnndaaRou13
import Derived.Test.YtflakkbodbnndaaAll4
/- What the program's Clone (of numbers) and PrependPath answer. -/
namespace Go.Proofs.Ytflakkbodbnndaa
open Go.RowKit

/-- Block c, whole: numbers. -/
def BkI (w : World) (c : Nat) (L : List Int) : Prop := w.heap[c]? = some (.cells (ncells .i64 L).toArray 3 (0, 0))
theorem BkI.lt {w : World} {c : Nat} {L : List Int} (h : BkI w c L) : c < w.heap.size := (Array.getElem?_eq_some_iff.1 h).1
theorem BkI.below {w w' : World} {c : Nat} {L : List Int} (h : BkI w c L) (k : Below w.heap.size w w') : BkI w' c L := (k.block c h.lt).trans h
theorem BkI.only {w w' : World} {c d : Nat} {L : List Int} (h : BkI w c L) (k : Only d w w') (hn : c ≠ d) : BkI w' c L := (k.2.2.2.2 c h.lt hn).trans h
theorem BkI.cell {w : World} {c : Nat} {L : List Int} (h : BkI w c L) {i : Nat} (hi : i < L.length) : w.cell? ⟨c, i, none⟩ = some (.int .i64 (L.getD i 0)) := by
  rw [cell_of_row w c i _ _ (0, 0) h]
  simpa using nc_at .i64 hi
theorem BkI.frozen {w : World} {c : Nat} {L : List Int} (h : BkI w c L) (i : Nat) : w.frozen? ⟨c, i, none⟩ = false := by
  unfold BkI at h
  simp [World.frozen?, h]
theorem BkI.set {w : World} {c : Nat} {L : List Int} (h : BkI w c L) (i : Nat) (v : Int) : BkI (w.setCell ⟨c, i, none⟩ (.int .i64 v)) c (L.set i v) := by
  unfold BkI at h ⊢
  have hlt := (Array.getElem?_eq_some_iff.1 h).1
  simp only [World.setCell, Array.getElem?_modify, h]
  simp [ncells, List.map_set]
theorem BkI.out {w : World} {c : Nat} {L : List Int} (h : BkI w c L) : OutInt c L.length L.length (fun i => L.getD i 0) w :=
  ⟨h.lt, fun _ hi => ⟨⟨_, h.cell hi, fun _ => rfl⟩, h.frozen _⟩⟩
theorem BkI.new (w : World) (n : Nat) : BkI (w.alloc (.cells (madeCells #[.int .i64 0] n) 3)) w.heap.size (List.replicate n 0) := by
  unfold BkI
  rw [heap_alloc_new]
  congr 2
  apply Array.ext
  · simp [madeCells, ncells]
  · intro i h1 h2
    simp [madeCells, ncells, Nat.mod_one]
theorem rep_set (asn : Int) (k n : Nat) (h : k < n) : (List.replicate k asn ++ List.replicate (n - k) 0).set k asn = List.replicate (k + 1) asn ++ List.replicate (n - (k + 1)) 0 := by
  obtain ⟨r, hr⟩ : ∃ r, n - k = r + 1 := ⟨n - k - 1, by omega⟩
  rw [hr, show n - (k + 1) = r by omega, List.replicate_succ, List.set_append_right _ _ (by simp), List.replicate_succ']
  simp
theorem splice_lon (asn : Int) (m n0 : Nat) (f : Nat → Int) : splice (ncells .i64 (List.replicate m asn ++ List.replicate (m + n0 - m) 0)) m (ncells .i64 ((List.range n0).map f)) = ncells .i64 (lon asn m n0 f) := by
  unfold splice lon
  rw [nc_len, nc_app, nc_app]
  have e1 : (ncells .i64 (List.replicate m asn)).length = m := by rw [nc_len]; simp
  have e2 : (ncells .i64 (List.replicate (m + n0 - m) (0 : Int))).length = n0 := by rw [nc_len]; simp
  rw [List.take_append_of_le_length (by rw [e1]; exact Nat.le_refl _), List.take_of_length_le (by rw [e1]; exact Nat.le_refl _)]
  congr 1
  rw [List.drop_of_length_le (by rw [List.length_append, e1, e2]; simp), List.append_nil]
set_option maxRecDepth 100000 in
set_option maxHeartbeats 1600000 in
theorem i_cloneI (y n1 c1 : Nat) (g : Nat → Int) (w : World) (h1 : n1 ≤ 10) (R1 : RowInt (some ⟨y, 0, none⟩) n1 g w) :
    Calls Try.prog 61 #[.slice (some ⟨y, 0, none⟩) n1 c1] w fun e w' => ∃ q qc, e = .returned (.slice (some ⟨q, 0, none⟩) n1 qc) ∧ w.heap.size ≤ q ∧ OutInt q n1 n1 g w' ∧ Below w.heap.size w w' := by
  have hm0 : OwnN 3 .i64 w.heap.size (.slice (some ⟨w.heap.size, 0, none⟩) 0 0) [] (w.alloc (.cells #[] 3)) := by
    have := World.ownsRow_made (e := 3) (size := 1) (base := w.heap.size) w #[] 0 (Nat.le_refl _) (by decide) (by decide)
    unfold OwnN
    simpa [ncells] using this
  have d : Below w.heap.size w (w.alloc (.cells #[] 3)) := below_box (Below.refl _ _)
  have hsz : w.heap.size ≤ (w.alloc (.cells #[] 3)).heap.size := by simp
  have S1 : SrcN .i64 (some ⟨y, 0, none⟩) ((List.range n1).map g) c1 (w.alloc (.cells #[] 3)) := ⟨(R1.below d).rowN, .inr ⟨_, _, rfl⟩⟩
  have q22 : ∀ (w : World) (a : Option Addr) (n c n' c' : Nat), (binOp .eql 26 (.slice a n c) (.slice none n' c')).run Try.prog w = .ok (.bool a.isNone) w := fun w a n c n' c' => Lib.run_eql_slice_nil w _ _ a n c n' c' Try.underlying26
  have hl1 := hide (show n1 = ((List.range n1).map g).length by simp)
  have hb1 : Hid (([] : List Int).length + ((List.range n1).map g).length ≤ 8589934593) := by show _ ≤ _; simp; omega
  go_enter Try.func61, Try.ntmps61
  go_wp2_with (first | (at_builtin; refine wpList_appN numInt rfl _ _ rfl w.heap.size _ [] rfl hm0 _ ((List.range n1).map g) n1 c1 rfl hl1.out S1 hb1.out (by decide) hsz ?_))
  intro v2 w2 own2 b2 _ hbl
  obtain ⟨ya, yc, rfl, _, hcase⟩ := ownN_row own2
  obtain ⟨q, rfl, hy1, hy2⟩ : ∃ y, ya = some ⟨y, 0, none⟩ ∧ w.heap.size ≤ y ∧ y < w2.heap.size := by
    rcases hcase with ⟨rfl, _, _⟩ | ⟨q, h1, h2, h3⟩
    · simp [Value.ownBlock] at hbl
    · exact ⟨q, h1, h2, h3⟩
  have h2 := ownN_out own2
  simp only [List.length_map, List.length_range] at h2 ⊢
  have h2 : OutInt q n1 n1 g w2 := h2.congr (fun i hi => map_get g i hi)
  have dF := d.trans b2
  clear hbl hcase own2 S1 hm0
  go_wp2_with fail
  exact bodyPost_ret (v := .slice (some ⟨q, 0, none⟩) n1 yc) (by simp [results, Try.results61, go_sem]) rfl ⟨q, yc, rfl, hy1, h2, dF⟩
end Go.Proofs.Ytflakkbodbnndaa

/- The law on PrependPath: the program answers as the specification. -/
namespace Go.Proofs.Ytflakkbodbnndaa
open Go.RowKit

set_option maxRecDepth 100000 in
set_option maxHeartbeats 800000 in
theorem w_markAttrs_nil (w : World) :
    Calls Try.prog 31 #[.agg #[.int .i64 0, .slice none 0 0, .int .i64 0, .int .i64 0, .int .i64 0, .slice none 0 0], .int .i64 1] w fun e w' => e = .returned (.int .i64 1) ∧ Below w.heap.size w w' := by
  have s0 := hide (fun k w => w_markIntS_nil none 0 k w)
  have d : Below w.heap.size w (w.alloc (.cells #[.int .i64 0, .slice none 0 0, .int .i64 0, .int .i64 0, .int .i64 0, .slice none 0 0] 33)) := below_box (Below.refl _ _)
  go_enter Try.func31, Try.ntmps31
  go_wp2_with fail
  refine (s0.out _ _).mono ?_
  rintro e w2 ⟨rfl, rfl⟩
  go_wp2_with fail
  refine (s0.out _ _).mono ?_
  rintro e w2 ⟨rfl, rfl⟩
  go_wp2_with fail
  go_ret
  exact ⟨rfl, d⟩
end Go.Proofs.Ytflakkbodbnndaa

namespace Go.Proofs.Ytflakkbodbnndaa
open Go.RowKit

/-- A route of its own behind base, or the zero one. -/
def AnsG (base : Nat) (t : Ro) (a0 : Option Addr) (c0 : Nat) (a1 : Option Addr) (c1 : Nat) (w : World) : Prop := (RowInt a0 t.n0 t.f w ∧ RowInt a1 t.n1 t.g w) ∧ ((t = ro0 ∧ a0 = none ∧ c0 = 0 ∧ a1 = none ∧ c1 = 0) ∨ ∃ x y, a0 = some ⟨x, 0, none⟩ ∧ a1 = some ⟨y, 0, none⟩ ∧ base ≤ x ∧ base ≤ y ∧ x ≠ y ∧ OutInt x t.n0 t.n0 t.f w ∧ OutInt y t.n1 t.n1 t.g w)
theorem AnsG.below {base : Nat} {t : Ro} {a0 : Option Addr} {c0 : Nat} {a1 : Option Addr} {c1 : Nat} {w w' : World} (h : AnsG base t a0 c0 a1 c1 w) (b : Below w.heap.size w w') : AnsG base t a0 c0 a1 c1 w' := by
  refine ⟨⟨h.1.1.below b, h.1.2.below b⟩, ?_⟩
  rcases h.2 with h | ⟨x, y, h1, h2, h3, h4, h5, o1, o2⟩
  · exact .inl h
  · exact .inr ⟨x, y, h1, h2, h3, h4, h5, o1.below b, o2.below b⟩
theorem AnsG.only {base c : Nat} {t : Ro} {a0 : Option Addr} {c0 : Nat} {a1 : Option Addr} {c1 : Nat} {w w' : World} (h : AnsG base t a0 c0 a1 c1 w) (b : Only c w w') (hc : c < base) : AnsG base t a0 c0 a1 c1 w' := by
  rcases h.2 with ⟨rfl, rfl, rfl, rfl, rfl⟩ | ⟨x, y, rfl, rfl, h3, h4, h5, o1, o2⟩
  · exact ⟨⟨fun _ hi => absurd hi (Nat.not_lt_zero _), fun _ hi => absurd hi (Nat.not_lt_zero _)⟩, .inl ⟨rfl, rfl, rfl, rfl, rfl⟩⟩
  · have p1 := o1.only b (by omega)
    have p2 := o2.only b (by omega)
    exact ⟨⟨p1.row, p2.row⟩, .inr ⟨x, y, rfl, rfl, h3, h4, h5, p1, p2⟩⟩
theorem ansG_zero (base : Nat) (w : World) : AnsG base ro0 none 0 none 0 w := ⟨⟨fun _ hi => absurd hi (Nat.not_lt_zero _), fun _ hi => absurd hi (Nat.not_lt_zero _)⟩, .inl ⟨rfl, rfl, rfl, rfl, rfl⟩⟩
theorem ansG_own {base x y : Nat} {t : Ro} {c0 c1 : Nat} {w : World} (hx : base ≤ x) (hy : base ≤ y) (hn : x ≠ y) (o1 : OutInt x t.n0 t.n0 t.f w) (o2 : OutInt y t.n1 t.n1 t.g w) : AnsG base t (some ⟨x, 0, none⟩) c0 (some ⟨y, 0, none⟩) c1 w :=
  ⟨⟨o1.row, o2.row⟩, .inr ⟨x, y, rfl, rfl, hx, hy, hn, o1, o2⟩⟩
theorem AnsG.at0 {base : Nat} {t : Ro} {a0 : Option Addr} {c0 : Nat} {a1 : Option Addr} {c1 : Nat} {w : World} (h : AnsG base t a0 c0 a1 c1 w) : (∀ z, a0 = some ⟨z, 0, none⟩ → base ≤ z ∧ z < w.heap.size) ∧ (∀ z, a1 = some ⟨z, 0, none⟩ → base ≤ z ∧ z < w.heap.size) := by
  rcases h.2 with ⟨_, rfl, _, rfl, _⟩ | ⟨x, y, rfl, rfl, h3, h4, h5, o1, o2⟩
  · exact ⟨fun _ e => (by cases e), fun _ e => (by cases e)⟩
  · refine ⟨fun z e => ?_, fun z e => ?_⟩
    · simp only [Option.some.injEq, Addr.mk.injEq, and_true] at e
      subst e; exact ⟨h3, o1.1⟩
    · simp only [Option.some.injEq, Addr.mk.injEq, and_true] at e
      subst e; exact ⟨h4, o2.1⟩
theorem AnsG.mono {base base' : Nat} {t : Ro} {a0 : Option Addr} {c0 : Nat} {a1 : Option Addr} {c1 : Nat} {w : World} (h : AnsG base t a0 c0 a1 c1 w) (hb : base' ≤ base) : AnsG base' t a0 c0 a1 c1 w := by
  refine ⟨h.1, ?_⟩
  rcases h.2 with h | ⟨x, y, h1, h2, h3, h4, h5, o1, o2⟩
  · exact .inl h
  · exact .inr ⟨x, y, h1, h2, by omega, by omega, h5, o1, o2⟩
theorem RowInt.keepB {base : Nat} {a : Option Addr} {n : Nat} {f : Nat → Int} {w w' : World} (h : RowInt a n f w) (hs : w.heap.size ≤ w'.heap.size) (ha : ∀ b off, a = some ⟨b, off, none⟩ → base ≤ b) (hk : ∀ b, base ≤ b → b < w.heap.size → w'.heap[b]? = w.heap[b]?) : RowInt a n f w' := by
  intro i hi
  obtain ⟨b, off, e, hlt, hc⟩ := h i hi
  exact ⟨b, off, e, Nat.lt_of_lt_of_le hlt hs, (World.cell?_of_block (w := w) (hk b (ha b off e) hlt)).trans hc⟩
theorem OutInt.keepB {c n k : Nat} {f : Nat → Int} {w w' : World} (h : OutInt c n k f w) (hs : w.heap.size ≤ w'.heap.size) (hk : w'.heap[c]? = w.heap[c]?) : OutInt c n k f w' := by
  refine ⟨Nat.lt_of_lt_of_le h.1 hs, fun i hi => ?_⟩
  obtain ⟨⟨x, h0, hx⟩, g0⟩ := h.2 i hi
  exact ⟨⟨x, (World.cell?_of_block (w := w) hk).trans h0, hx⟩, (World.frozen?_of_block (w := w) hk).trans g0⟩
theorem AnsG.keep {base : Nat} {t : Ro} {a0 : Option Addr} {c0 : Nat} {a1 : Option Addr} {c1 : Nat} {w w' : World} (h : AnsG base t a0 c0 a1 c1 w) (hs : w.heap.size ≤ w'.heap.size) (hk : ∀ b, base ≤ b → b < w.heap.size → w'.heap[b]? = w.heap[b]?) : AnsG base t a0 c0 a1 c1 w' := by
  rcases h.2 with ⟨rfl, rfl, rfl, rfl, rfl⟩ | ⟨x, y, rfl, rfl, h3, h4, h5, o1, o2⟩
  · exact ansG_zero _ _
  · exact ansG_own h3 h4 h5 (o1.keepB hs (hk x h3 o1.1)) (o2.keepB hs (hk y h4 o2.1))
theorem RowInt.onlyB {a : Option Addr} {n c : Nat} {f : Nat → Int} {w w' : World} (h : RowInt a n f w) (o : Only c w w') (hn : ∀ b off, a = some ⟨b, off, none⟩ → b ≠ c) : RowInt a n f w' := by
  intro i hi
  obtain ⟨b, off, ha, hlt, e⟩ := h i hi
  exact ⟨b, off, ha, Nat.lt_of_lt_of_le hlt o.2.2.2.1, (o.cell hlt (hn b off ha)).trans e⟩
theorem Mut.blockB {w w' : World} {b : Nat} {vs : List Value} (h : Mut w b vs) (hb : w'.heap[b]? = w.heap[b]?) : Mut w' b vs := by
  refine ⟨?_, fun i v hv => (World.cell?_of_block (w := w) hb).trans (h.2.1 i v hv), fun i hi => (World.frozen?_of_block (w := w) hb).trans (h.2.2 i hi)⟩
  have h1 := Array.getElem?_eq_getElem h.1
  rw [← hb] at h1
  exact (Array.getElem?_eq_some_iff.1 h1).1
/-- Only blocks from base on are written. -/
theorem Below.of_only2 {base x y : Nat} {w u w' : World} (b1 : Only x w u) (b2 : Only y u w') (hx : base ≤ x) (hy : base ≤ y) (hb : base ≤ w.heap.size) : Below base w w' :=
  Below.trans ⟨b1.1, b1.2.1, b1.2.2.1, b1.2.2.2.1, fun k hk => b1.2.2.2.2 k (by omega) (by omega)⟩ ⟨b2.1, b2.2.1, b2.2.2.1, b2.2.2.2.1, fun k hk => b2.2.2.2.2 k (by have := b1.2.2.2.1; omega) (by omega)⟩
set_option maxRecDepth 100000 in
set_option maxHeartbeats 1600000 in
theorem w_markRt (base : Nat) (t : Ro) (a0 : Option Addr) (c0 : Nat) (a1 : Option Addr) (c1 : Nat) (w : World) (h0 : t.n0 ≤ 1048576) (h1 : t.n1 ≤ 1048576) (hb : base ≤ w.heap.size) (hA : AnsG base t a0 c0 a1 c1 w) :
    Calls Try.prog 11 #[.agg #[.int .i64 t.pa, .int .i64 t.pl, .int .i64 t.o, .slice a0 t.n0 c0, .int .i64 t.nx, .int .i64 t.md, .int .i64 t.pf, .slice a1 t.n1 c1], .int .i64 1] w fun e w' => e = .returned (.int .i64 (1 + (t.n0 : Int) + (t.n1 : Int))) ∧ (RowInt a0 t.n0 (fun i => 1 + (i : Int)) w' ∧ RowInt a1 t.n1 (fun i => 1 + (t.n0 : Int) + (i : Int)) w') ∧ Below base w w' ∧ (∀ kb, kb < w.heap.size → a0 ≠ some ⟨kb, 0, none⟩ → a1 ≠ some ⟨kb, 0, none⟩ → w'.heap[kb]? = w.heap[kb]?) := by
  rcases hA.2 with ⟨rfl, rfl, rfl, rfl, rfl⟩ | ⟨x, y, rfl, rfl, h3, h4, h5, o1, o2⟩
  · have s0 := hide (fun w => w_markAttrs_nil w)
    have d : Below w.heap.size w (w.alloc (.cells #[.int .i64 0, .int .i64 0, .int .i64 0, .slice none 0 0, .int .i64 0, .int .i64 0, .int .i64 0, .slice none 0 0] 35)) := below_box (Below.refl _ _)
    show Calls Try.prog 11 #[.agg #[.int .i64 0, .int .i64 0, .int .i64 0, .slice none 0 0, .int .i64 0, .int .i64 0, .int .i64 0, .slice none 0 0], .int .i64 1] w _
    go_enter Try.func11, Try.ntmps11
    go_wp2_with fail
    refine (s0.out _).mono ?_
    rintro e w2 ⟨rfl, b2⟩
    have d2 := d.trans (b2.mono d.size)
    go_wp2_with fail
    go_ret
    exact ⟨rfl, ⟨fun _ hi => absurd hi (Nat.not_lt_zero _), fun _ hi => absurd hi (Nat.not_lt_zero _)⟩, d2.mono hb, fun kb hk _ _ => d2.block kb hk⟩
  · have s0 := hide (fun w O P => w_markAttrs t.o t.nx t.md t.pf x t.n0 c0 t.f y t.n1 c1 t.g w h0 h1 h5 O P)
    have d : Below w.heap.size w (w.alloc (.cells #[.int .i64 t.pa, .int .i64 t.pl, .int .i64 t.o, .slice (some ⟨x, 0, none⟩) t.n0 c0, .int .i64 t.nx, .int .i64 t.md, .int .i64 t.pf, .slice (some ⟨y, 0, none⟩) t.n1 c1] 35)) := below_box (Below.refl _ _)
    have q1 := o1.below d
    have q2 := o2.below d
    clear h0 h1 hA o1 o2
    go_enter Try.func11, Try.ntmps11
    go_wp2_with fail
    generalize w.alloc (.cells #[.int .i64 t.pa, .int .i64 t.pl, .int .i64 t.o, .slice (some ⟨x, 0, none⟩) t.n0 c0, .int .i64 t.nx, .int .i64 t.md, .int .i64 t.pf, .slice (some ⟨y, 0, none⟩) t.n1 c1] 35) = w1 at *
    refine (s0.out _ q1 q2).mono ?_
    rintro e w2 ⟨rfl, p1, p2, u, b1, b2⟩
    have hO : Below base w w2 := (d.mono hb).trans (Below.of_only2 b1 b2 h3 h4 (Nat.le_trans hb d.size))
    have r1 := p1.row
    have r2 := p2.row
    have hBk : ∀ kb, kb < w.heap.size → (some ⟨x, 0, none⟩ : Option Addr) ≠ some ⟨kb, 0, none⟩ → (some ⟨y, 0, none⟩ : Option Addr) ≠ some ⟨kb, 0, none⟩ → w2.heap[kb]? = w.heap[kb]? := fun kb hk hx hy => by
      have k1 : kb ≠ x := fun e => hx (by rw [e])
      have k2 : kb ≠ y := fun e => hy (by rw [e])
      have h1 := Nat.lt_of_lt_of_le hk d.size
      exact ((b2.2.2.2.2 kb (Nat.lt_of_lt_of_le h1 b1.2.2.2.1) k2).trans (b1.2.2.2.2 kb h1 k1)).trans (d.block kb hk)
    have hBk := hide hBk
    clear b1 b2 p1 p2 q1 q2 s0
    go_wp2_with fail
    go_ret
    exact ⟨rfl, ⟨r1, r2⟩, hO, hBk.out⟩
set_option maxRecDepth 100000 in
set_option maxHeartbeats 1600000 in
theorem w_heldRt (t : Ro) (a0 : Option Addr) (c0 : Nat) (a1 : Option Addr) (c1 : Nat) (w : World) (h0 : t.n0 ≤ 1048576) (h1 : t.n1 ≤ 1048576) (R : RowInt a0 t.n0 (fun i => 1 + (i : Int)) w ∧ RowInt a1 t.n1 (fun i => 1 + (t.n0 : Int) + (i : Int)) w) :
    Calls Try.prog 12 #[.agg #[.int .i64 t.pa, .int .i64 t.pl, .int .i64 t.o, .slice a0 t.n0 c0, .int .i64 t.nx, .int .i64 t.md, .int .i64 t.pf, .slice a1 t.n1 c1], .int .i64 1] w fun e w' => e = .returned (.int .i64 (1 + (t.n0 : Int) + (t.n1 : Int))) ∧ Below w.heap.size w w' := by
  have s0 := hide (fun w R0 R1 => w_heldAttrs t.o t.nx t.md t.pf a0 t.n0 c0 a1 t.n1 c1 w h0 h1 R0 R1)
  have d : Below w.heap.size w (w.alloc (.cells #[.int .i64 t.pa, .int .i64 t.pl, .int .i64 t.o, .slice a0 t.n0 c0, .int .i64 t.nx, .int .i64 t.md, .int .i64 t.pf, .slice a1 t.n1 c1] 35)) := below_box (Below.refl _ _)
  have r0 := R.1.below d
  have r1 := R.2.below d
  have hp : ¬ (1 + (t.n0 : Int) + (t.n1 : Int) < 0) := by omega
  clear h0 h1 R
  go_enter Try.func12, Try.ntmps12
  go_wp2_with fail
  generalize w.alloc (.cells #[.int .i64 t.pa, .int .i64 t.pl, .int .i64 t.o, .slice a0 t.n0 c0, .int .i64 t.nx, .int .i64 t.md, .int .i64 t.pf, .slice a1 t.n1 c1] 35) = w1 at *
  refine (s0.out _ r0 r1).mono ?_
  rintro e w2 ⟨rfl, b2⟩
  have d2 := d.trans (b2.mono d.size)
  go_wp2_with fail
  go_ret
  exact ⟨rfl, d2⟩
end Go.Proofs.Ytflakkbodbnndaa
