/- What the program's Clone (of numbers) and PrependPath answer. -/
import Derived.Test.YtofalilkephkpaaS4q
import Derived.Test.YtofalilkephkpaaI4
import Derived.Laws.CopyOwn
import Derived.Deep.RegionHeld3
import Derived.Lib.SliceRun
namespace Go.Proofs.Ytofalilkephkpaa
open Go.RowKit

/-- Block c, whole: numbers. -/
def BkI (w : World) (c : Nat) (L : List Int) : Prop := w.heap[c]? = some (.cells (ncells .i64 L).toArray 3 (0, 0))
theorem BkI.lt {w : World} {c : Nat} {L : List Int} (h : BkI w c L) : c < w.heap.size := (Array.getElem?_eq_some_iff.1 h).1
theorem BkI.below {w w' : World} {c : Nat} {L : List Int} (h : BkI w c L) (k : Below w.heap.size w w') : BkI w' c L := (k.block c h.lt).trans h
theorem BkI.only {w w' : World} {c d : Nat} {L : List Int} (h : BkI w c L) (k : Only d w w') (hn : c ≠ d) : BkI w' c L := (k.2.2.2.2 c h.lt hn).trans h
theorem BkI.cell {w : World} {c : Nat} {L : List Int} (h : BkI w c L) {i : Nat} (hi : i < L.length) : w.cell? ⟨c, i, none⟩ = some (.int .i64 (L.getD i 0)) := by
  rw [cell_of_row w c i _ _ (0, 0) h]
  simpa using nc_at .i64 hi
theorem BkI.frozen {w : World} {c : Nat} {L : List Int} (h : BkI w c L) (i : Nat) : w.frozen? ⟨c, i, none⟩ = false := by
  unfold BkI at h
  simp [World.frozen?, h]
theorem BkI.set {w : World} {c : Nat} {L : List Int} (h : BkI w c L) (i : Nat) (v : Int) : BkI (w.setCell ⟨c, i, none⟩ (.int .i64 v)) c (L.set i v) := by
  unfold BkI at h ⊢
  have hlt := (Array.getElem?_eq_some_iff.1 h).1
  simp only [World.setCell, Array.getElem?_modify, h]
  simp [ncells, List.map_set]
theorem BkI.out {w : World} {c : Nat} {L : List Int} (h : BkI w c L) : OutInt c L.length L.length (fun i => L.getD i 0) w :=
  ⟨h.lt, fun _ hi => ⟨⟨_, h.cell hi, fun _ => rfl⟩, h.frozen _⟩⟩
theorem BkI.new (w : World) (n : Nat) : BkI (w.alloc (.cells (madeCells #[.int .i64 0] n) 3)) w.heap.size (List.replicate n 0) := by
  unfold BkI
  rw [heap_alloc_new]
  congr 2
  apply Array.ext
  · simp [madeCells, ncells]
  · intro i h1 h2
    simp [madeCells, ncells, Nat.mod_one]
theorem rep_set (asn : Int) (k n : Nat) (h : k < n) : (List.replicate k asn ++ List.replicate (n - k) 0).set k asn = List.replicate (k + 1) asn ++ List.replicate (n - (k + 1)) 0 := by
  obtain ⟨r, hr⟩ : ∃ r, n - k = r + 1 := ⟨n - k - 1, by omega⟩
  rw [hr, show n - (k + 1) = r by omega, List.replicate_succ, List.set_append_right _ _ (by simp), List.replicate_succ']
  simp
theorem splice_lon (asn : Int) (m n0 : Nat) (f : Nat → Int) : splice (ncells .i64 (List.replicate m asn ++ List.replicate (m + n0 - m) 0)) m (ncells .i64 ((List.range n0).map f)) = ncells .i64 (lon asn m n0 f) := by
  unfold splice lon
  rw [nc_len, nc_app, nc_app]
  have e1 : (ncells .i64 (List.replicate m asn)).length = m := by rw [nc_len]; simp
  have e2 : (ncells .i64 (List.replicate (m + n0 - m) (0 : Int))).length = n0 := by rw [nc_len]; simp
  rw [List.take_append_of_le_length (by rw [e1]; exact Nat.le_refl _), List.take_of_length_le (by rw [e1]; exact Nat.le_refl _)]
  congr 1
  rw [List.drop_of_length_le (by rw [List.length_append, e1, e2]; simp), List.append_nil]
set_option maxRecDepth 100000 in
set_option maxHeartbeats 1600000 in
theorem i_cloneI (y n1 c1 : Nat) (g : Nat → Int) (w : World) (h1 : n1 ≤ 10) (R1 : RowInt (some ⟨y, 0, none⟩) n1 g w) :
    Calls Try.prog 146 #[.slice (some ⟨y, 0, none⟩) n1 c1] w fun e w' => ∃ q qc, e = .returned (.slice (some ⟨q, 0, none⟩) n1 qc) ∧ w.heap.size ≤ q ∧ OutInt q n1 n1 g w' ∧ Below w.heap.size w w' := by
  have hm0 : OwnN 3 .i64 w.heap.size (.slice (some ⟨w.heap.size, 0, none⟩) 0 0) [] (w.alloc (.cells #[] 3)) := by
    have := World.ownsRow_made (e := 3) (size := 1) (base := w.heap.size) w #[] 0 (Nat.le_refl _) (by decide) (by decide)
    unfold OwnN
    simpa [ncells] using this
  have d : Below w.heap.size w (w.alloc (.cells #[] 3)) := below_box (Below.refl _ _)
  have hsz : w.heap.size ≤ (w.alloc (.cells #[] 3)).heap.size := by simp
  have S1 : SrcN .i64 (some ⟨y, 0, none⟩) ((List.range n1).map g) c1 (w.alloc (.cells #[] 3)) := ⟨(R1.below d).rowN, .inr ⟨_, _, rfl⟩⟩
  have q22 : ∀ (w : World) (a : Option Addr) (n c n' c' : Nat), (binOp .eql 70 (.slice a n c) (.slice none n' c')).run Try.prog w = .ok (.bool a.isNone) w := fun w a n c n' c' => Lib.run_eql_slice_nil w _ _ a n c n' c' Try.underlying70
  have hl1 := hide (show n1 = ((List.range n1).map g).length by simp)
  have hb1 : Hid (([] : List Int).length + ((List.range n1).map g).length ≤ 8589934593) := by show _ ≤ _; simp; omega
  go_enter Try.func146, Try.ntmps146
  go_wp2_with (first | (at_builtin; refine wpList_appN numInt rfl _ _ rfl w.heap.size _ [] rfl hm0 _ ((List.range n1).map g) n1 c1 rfl hl1.out S1 hb1.out (by decide) hsz ?_))
  intro v2 w2 own2 b2 _ hbl
  obtain ⟨ya, yc, rfl, _, hcase⟩ := ownN_row own2
  obtain ⟨q, rfl, hy1, hy2⟩ : ∃ y, ya = some ⟨y, 0, none⟩ ∧ w.heap.size ≤ y ∧ y < w2.heap.size := by
    rcases hcase with ⟨rfl, _, _⟩ | ⟨q, h1, h2, h3⟩
    · simp [Value.ownBlock] at hbl
    · exact ⟨q, h1, h2, h3⟩
  have h2 := ownN_out own2
  simp only [List.length_map, List.length_range] at h2 ⊢
  have h2 : OutInt q n1 n1 g w2 := h2.congr (fun i hi => map_get g i hi)
  have dF := d.trans b2
  clear hbl hcase own2 S1 hm0
  go_wp2_with fail
  exact bodyPost_ret (v := .slice (some ⟨q, 0, none⟩) n1 yc) (by simp [results, Try.results146, go_sem]) rfl ⟨q, yc, rfl, hy1, h2, dF⟩
set_option maxRecDepth 100000 in
set_option maxHeartbeats 1600000 in
theorem i_prepend_no (o nx md pf : Int) (x n0 c0 : Nat) (f : Nat → Int) (y n1 c1 : Nat) (g : Nat → Int) (asn many : Int) (w : World) (h0 : n0 ≤ 1048576) (h1 : n1 ≤ 1048576) (R0 : RowInt (some ⟨x, 0, none⟩) n0 f w) (R1 : RowInt (some ⟨y, 0, none⟩) n1 g w) (hn : preB o nx md pf n0 f n1 g asn many = false) :
    Calls Try.prog 63 #[.agg #[.int .i64 o, .slice (some ⟨x, 0, none⟩) n0 c0, .int .i64 nx, .int .i64 md, .int .i64 pf, .slice (some ⟨y, 0, none⟩) n1 c1], .int .i64 asn, .int .i64 many] w fun e w' => e = .returned (.tuple #[.agg #[.int .i64 0, .slice none 0 0, .int .i64 0, .int .i64 0, .int .i64 0, .slice none 0 0], .bool false]) ∧ Below w.heap.size w w' := by
  have s1 := hide (fun w R0 R1 => i_goodAttrs o nx md pf (some ⟨x, 0, none⟩) n0 c0 f (some ⟨y, 0, none⟩) n1 c1 g w h0 h1 R0 R1)
  have t1 := hide (fun w => i_isAsn asn w)
  have hdef : preB o nx md pf n0 f n1 g asn many = (attrB o nx md pf n0 f n1 g && inB asn 1 65535 && decide (1 ≤ many ∧ many + n0 ≤ 10)) := rfl
  rw [hdef] at hn
  clear hdef
  generalize attrB o nx md pf n0 f n1 g = rA at *
  generalize inB asn 1 65535 = rB at *
  have d : Below w.heap.size w ((w.alloc (.cells #[.int .i64 o, .slice (some ⟨x, 0, none⟩) n0 c0, .int .i64 nx, .int .i64 md, .int .i64 pf, .slice (some ⟨y, 0, none⟩) n1 c1] 75)).alloc (.cells #[.int .i64 0, .slice none 0 0, .int .i64 0, .int .i64 0, .int .i64 0, .slice none 0 0] 75)) := below_box2 (Below.refl _ _)
  have M0 := (Mut.new w #[.int .i64 o, .slice (some ⟨x, 0, none⟩) n0 c0, .int .i64 nx, .int .i64 md, .int .i64 pf, .slice (some ⟨y, 0, none⟩) n1 c1] 75).alloc (.cells #[.int .i64 0, .slice none 0 0, .int .i64 0, .int .i64 0, .int .i64 0, .slice none 0 0] 75)
  have M1 := Mut.new (w.alloc (.cells #[.int .i64 o, .slice (some ⟨x, 0, none⟩) n0 c0, .int .i64 nx, .int .i64 md, .int .i64 pf, .slice (some ⟨y, 0, none⟩) n1 c1] 75)) #[.int .i64 0, .slice none 0 0, .int .i64 0, .int .i64 0, .int .i64 0, .slice none 0 0] 75
  simp only [World.size_alloc] at M1
  cases rA with
  | false =>
    clear hn
    go_enter Try.func63, Try.ntmps63
    go_wp2_with fail
    generalize (w.alloc (.cells #[.int .i64 o, .slice (some ⟨x, 0, none⟩) n0 c0, .int .i64 nx, .int .i64 md, .int .i64 pf, .slice (some ⟨y, 0, none⟩) n1 c1] 75)).alloc (.cells #[.int .i64 0, .slice none 0 0, .int .i64 0, .int .i64 0, .int .i64 0, .slice none 0 0] 75) = w1 at *
    refine (s1.out _ (R0.below d) (R1.below d)).mono ?_
    rintro e w2 ⟨rfl, b2⟩
    have M0 := M0.below b2
    have M1 := M1.below b2
    have d2 := d.trans (b2.mono d.size)
    have uu := M0.2.1 1 _ rfl
    have k0 := M1.2.1 0 _ rfl
    have j0 := M1.2.2 0 (by simp)
    have k1 := M1.2.1 1 _ rfl
    have j1 := M1.2.2 1 (by simp)
    have k2 := M1.2.1 2 _ rfl
    have j2 := M1.2.2 2 (by simp)
    have k3 := M1.2.1 3 _ rfl
    have j3 := M1.2.2 3 (by simp)
    have k4 := M1.2.1 4 _ rfl
    have j4 := M1.2.2 4 (by simp)
    have k5 := M1.2.1 5 _ rfl
    have j5 := M1.2.2 5 (by simp)
    go_wp2_with fail
    exact bodyPost_ret (v := .tuple #[.agg #[.int .i64 0, .slice none 0 0, .int .i64 0, .int .i64 0, .int .i64 0, .slice none 0 0], .bool false]) (by simp [results, Try.results63, go_sem, k0, k1, k2, k3, k4, k5]) rfl ⟨rfl, by refine Below.setCell (Below.setCell (Below.setCell (Below.setCell (Below.setCell (Below.setCell d2 ?_ _) ?_ _) ?_ _) ?_ _) ?_ _) ?_ _ <;> simp⟩
  | true =>
    cases rB with
    | false =>
      clear hn
      go_enter Try.func63, Try.ntmps63
      go_wp2_with fail
      generalize (w.alloc (.cells #[.int .i64 o, .slice (some ⟨x, 0, none⟩) n0 c0, .int .i64 nx, .int .i64 md, .int .i64 pf, .slice (some ⟨y, 0, none⟩) n1 c1] 75)).alloc (.cells #[.int .i64 0, .slice none 0 0, .int .i64 0, .int .i64 0, .int .i64 0, .slice none 0 0] 75) = w1 at *
      refine (s1.out _ (R0.below d) (R1.below d)).mono ?_
      rintro e w2 ⟨rfl, b2⟩
      have M0 := M0.below b2
      have M1 := M1.below b2
      have d2 := d.trans (b2.mono d.size)
      have uu := M0.2.1 1 _ rfl
      have k0 := M1.2.1 0 _ rfl
      have j0 := M1.2.2 0 (by simp)
      have k1 := M1.2.1 1 _ rfl
      have j1 := M1.2.2 1 (by simp)
      have k2 := M1.2.1 2 _ rfl
      have j2 := M1.2.2 2 (by simp)
      have k3 := M1.2.1 3 _ rfl
      have j3 := M1.2.2 3 (by simp)
      have k4 := M1.2.1 4 _ rfl
      have j4 := M1.2.2 4 (by simp)
      have k5 := M1.2.1 5 _ rfl
      have j5 := M1.2.2 5 (by simp)
      go_wp2_with fail
      refine (t1.out _).mono ?_
      rintro e w3 ⟨rfl, rfl⟩
      go_wp2_with fail
      exact bodyPost_ret (v := .tuple #[.agg #[.int .i64 0, .slice none 0 0, .int .i64 0, .int .i64 0, .int .i64 0, .slice none 0 0], .bool false]) (by simp [results, Try.results63, go_sem, k0, k1, k2, k3, k4, k5]) rfl ⟨rfl, by refine Below.setCell (Below.setCell (Below.setCell (Below.setCell (Below.setCell (Below.setCell d2 ?_ _) ?_ _) ?_ _) ?_ _) ?_ _) ?_ _ <;> simp⟩
    | true =>
      have hn : ¬ (1 ≤ many ∧ many + n0 ≤ 10) := by simpa using hn
      by_cases hm1 : many < 1
      · clear hn
        go_enter Try.func63, Try.ntmps63
        go_wp2_with fail
        generalize (w.alloc (.cells #[.int .i64 o, .slice (some ⟨x, 0, none⟩) n0 c0, .int .i64 nx, .int .i64 md, .int .i64 pf, .slice (some ⟨y, 0, none⟩) n1 c1] 75)).alloc (.cells #[.int .i64 0, .slice none 0 0, .int .i64 0, .int .i64 0, .int .i64 0, .slice none 0 0] 75) = w1 at *
        refine (s1.out _ (R0.below d) (R1.below d)).mono ?_
        rintro e w2 ⟨rfl, b2⟩
        have M0 := M0.below b2
        have M1 := M1.below b2
        have d2 := d.trans (b2.mono d.size)
        have uu := M0.2.1 1 _ rfl
        have k0 := M1.2.1 0 _ rfl
        have j0 := M1.2.2 0 (by simp)
        have k1 := M1.2.1 1 _ rfl
        have j1 := M1.2.2 1 (by simp)
        have k2 := M1.2.1 2 _ rfl
        have j2 := M1.2.2 2 (by simp)
        have k3 := M1.2.1 3 _ rfl
        have j3 := M1.2.2 3 (by simp)
        have k4 := M1.2.1 4 _ rfl
        have j4 := M1.2.2 4 (by simp)
        have k5 := M1.2.1 5 _ rfl
        have j5 := M1.2.2 5 (by simp)
        go_wp2_with fail
        refine (t1.out _).mono ?_
        rintro e w3 ⟨rfl, rfl⟩
        go_wp2_with fail
        exact bodyPost_ret (v := .tuple #[.agg #[.int .i64 0, .slice none 0 0, .int .i64 0, .int .i64 0, .int .i64 0, .slice none 0 0], .bool false]) (by simp [results, Try.results63, go_sem, k0, k1, k2, k3, k4, k5]) rfl ⟨rfl, by refine Below.setCell (Below.setCell (Below.setCell (Below.setCell (Below.setCell (Below.setCell d2 ?_ _) ?_ _) ?_ _) ?_ _) ?_ _) ?_ _ <;> simp⟩
      · have hm2 : many > 10 - (n0 : Int) := by omega
        clear hn
        go_enter Try.func63, Try.ntmps63
        go_wp2_with fail
        generalize (w.alloc (.cells #[.int .i64 o, .slice (some ⟨x, 0, none⟩) n0 c0, .int .i64 nx, .int .i64 md, .int .i64 pf, .slice (some ⟨y, 0, none⟩) n1 c1] 75)).alloc (.cells #[.int .i64 0, .slice none 0 0, .int .i64 0, .int .i64 0, .int .i64 0, .slice none 0 0] 75) = w1 at *
        refine (s1.out _ (R0.below d) (R1.below d)).mono ?_
        rintro e w2 ⟨rfl, b2⟩
        have M0 := M0.below b2
        have M1 := M1.below b2
        have d2 := d.trans (b2.mono d.size)
        have uu := M0.2.1 1 _ rfl
        have k0 := M1.2.1 0 _ rfl
        have j0 := M1.2.2 0 (by simp)
        have k1 := M1.2.1 1 _ rfl
        have j1 := M1.2.2 1 (by simp)
        have k2 := M1.2.1 2 _ rfl
        have j2 := M1.2.2 2 (by simp)
        have k3 := M1.2.1 3 _ rfl
        have j3 := M1.2.2 3 (by simp)
        have k4 := M1.2.1 4 _ rfl
        have j4 := M1.2.2 4 (by simp)
        have k5 := M1.2.1 5 _ rfl
        have j5 := M1.2.2 5 (by simp)
        go_wp2_with fail
        refine (t1.out _).mono ?_
        rintro e w3 ⟨rfl, rfl⟩
        go_wp2_with fail
        exact bodyPost_ret (v := .tuple #[.agg #[.int .i64 0, .slice none 0 0, .int .i64 0, .int .i64 0, .int .i64 0, .slice none 0 0], .bool false]) (by simp [results, Try.results63, go_sem, k0, k1, k2, k3, k4, k5]) rfl ⟨rfl, by refine Below.setCell (Below.setCell (Below.setCell (Below.setCell (Below.setCell (Below.setCell d2 ?_ _) ?_ _) ?_ _) ?_ _) ?_ _) ?_ _ <;> simp⟩
set_option maxRecDepth 100000 in
set_option maxHeartbeats 6400000 in
theorem i_prepend_yes (o nx md pf : Int) (x n0 c0 : Nat) (f : Nat → Int) (y n1 c1 : Nat) (g : Nat → Int) (asn : Int) (m : Nat) (w : World) (h0 : n0 ≤ 1048576) (h1 : n1 ≤ 1048576) (R0 : RowInt (some ⟨x, 0, none⟩) n0 f w) (R1 : RowInt (some ⟨y, 0, none⟩) n1 g w) (ha : attrB o nx md pf n0 f n1 g = true) (hs : inB asn 1 65535 = true) (hm : 1 ≤ m) (hm2 : m + n0 ≤ 10) :
    Calls Try.prog 63 #[.agg #[.int .i64 o, .slice (some ⟨x, 0, none⟩) n0 c0, .int .i64 nx, .int .i64 md, .int .i64 pf, .slice (some ⟨y, 0, none⟩) n1 c1], .int .i64 asn, .int .i64 m] w fun e w' => AnsA w.heap.size o nx md pf (m + n0) (fun i => (lon asn m n0 f).getD i 0) n1 g e w w' := by
  have hn0 : n0 ≤ 10 ∧ n1 ≤ 6 := by
    unfold attrB at ha
    simp only [Bool.and_eq_true, decide_eq_true_eq] at ha
    exact ⟨ha.1.1.1.2, ha.1.2⟩
  have hinfo : (Try.prog.info? 3).map (fun i => (i.zero, i.size, i.bytes)) = some (some (.int .i64 0), 1, 8) := by kernel_rfl
  obtain ⟨i, hi, hzz⟩ := Option.map_eq_some_iff.1 hinfo
  simp only [Prod.mk.injEq] at hzz
  obtain ⟨hz, hsz, hby⟩ := hzz
  have hmk := fun w : World => run_make (P := Try.prog) w 70 3 i _ Try.underlying70 hi hz .i64 .i64 ((m : Int) + (n0 : Int)) ((m : Int) + (n0 : Int)) (by omega) (by omega) (by rw [hby]; omega) (by omega)
  rw [hsz] at hmk
  clear hi hz hsz hby hinfo
  have htn : ((m : Int) + (n0 : Int)).toNat = m + n0 := by omega
  simp only [htn, Nat.mul_one, Value.cells] at hmk
  have s1 := hide (fun w R0 R1 => i_goodAttrs o nx md pf (some ⟨x, 0, none⟩) n0 c0 f (some ⟨y, 0, none⟩) n1 c1 g w h0 h1 R0 R1)
  have t1 := hide (fun w => i_isAsn asn w)
  rw [ha] at s1
  rw [hs] at t1
  have CL := hide (fun w R1 => i_cloneI y n1 c1 g w (by omega) R1)
  have hg1 : ¬ ((m : Int) < 1) := by omega
  have hg2 : ¬ ((m : Int) > 10 - (n0 : Int)) := by omega
  have d : Below w.heap.size w ((w.alloc (.cells #[.int .i64 o, .slice (some ⟨x, 0, none⟩) n0 c0, .int .i64 nx, .int .i64 md, .int .i64 pf, .slice (some ⟨y, 0, none⟩) n1 c1] 75)).alloc (.cells #[.int .i64 0, .slice none 0 0, .int .i64 0, .int .i64 0, .int .i64 0, .slice none 0 0] 75)) := below_box2 (Below.refl _ _)
  have M0 := (Mut.new w #[.int .i64 o, .slice (some ⟨x, 0, none⟩) n0 c0, .int .i64 nx, .int .i64 md, .int .i64 pf, .slice (some ⟨y, 0, none⟩) n1 c1] 75).alloc (.cells #[.int .i64 0, .slice none 0 0, .int .i64 0, .int .i64 0, .int .i64 0, .slice none 0 0] 75)
  have M1 := Mut.new (w.alloc (.cells #[.int .i64 o, .slice (some ⟨x, 0, none⟩) n0 c0, .int .i64 nx, .int .i64 md, .int .i64 pf, .slice (some ⟨y, 0, none⟩) n1 c1] 75)) #[.int .i64 0, .slice none 0 0, .int .i64 0, .int .i64 0, .int .i64 0, .slice none 0 0] 75
  simp only [World.size_alloc] at M1
  clear ha hs h0 h1
  go_enter Try.func63, Try.ntmps63
  go_wp2_with fail
  generalize (w.alloc (.cells #[.int .i64 o, .slice (some ⟨x, 0, none⟩) n0 c0, .int .i64 nx, .int .i64 md, .int .i64 pf, .slice (some ⟨y, 0, none⟩) n1 c1] 75)).alloc (.cells #[.int .i64 0, .slice none 0 0, .int .i64 0, .int .i64 0, .int .i64 0, .slice none 0 0] 75) = w1 at *
  refine (s1.out _ (R0.below d) (R1.below d)).mono ?_
  rintro e w2 ⟨rfl, b2⟩
  have M0 := M0.below b2
  have M1 := M1.below b2
  have d2 := d.trans (b2.mono d.size)
  have hzM := M1.1
  clear s1 b2 d
  have uu := M0.2.1 1 _ rfl
  go_wp2_with fail
  refine (t1.out _).mono ?_
  rintro e w3 ⟨rfl, rfl⟩
  clear t1
  have B0 := BkI.new w3 (m + n0)
  have bB : Below w3.heap.size w3 (w3.alloc (.cells (madeCells #[.int .i64 0] (m + n0)) 3)) := below_box (Below.refl _ _)
  go_wp2_with fail
  generalize w3.alloc (.cells (madeCells #[.int .i64 0] (m + n0)) 3) = w4 at *
  have M0 := M0.below bB
  have M1 := M1.below bB
  have d4 := d2.trans (bB.mono d2.size)
  have hz4 := bB.size
  clear hmk bB uu d2
  generalize hgg : w3.heap.size = gp at *
  clear hgg
  go_loopw [9, 38] (fun _ i wr => ∃ k : Nat, k ≤ m ∧ i = .int .i64 k ∧ BkI wr gp (List.replicate k asn ++ List.replicate (m + n0 - k) 0) ∧ Only gp w4 wr) (fun _ i _ => m - (intOf i).toNat)
  case atStart => exact ⟨0, Nat.zero_le _, rfl, by simpa using B0, Only.refl _ _⟩
  case round =>
    clear B0
    obtain ⟨k, hk, rfl, B, oB⟩ := hrel
    by_cases hlt : k < m
    · have hlt' : (k : Int) < (m : Int) := by omega
      have hix : (k : Int) < ((m + n0 : Nat) : Int) := by omega
      have hix2 : (k : Int) < (m : Int) + (n0 : Int) := by omega
      have c0 := B.cell (i := k) (by simp; omega)
      have z0 := B.frozen k
      have BS := B.set k asn
      rw [rep_set asn k (m + n0) (by omega)] at BS
      have oS : ∀ v : Value, Only gp w4 (wr.setCell ⟨gp, k, none⟩ v) := fun v => oB.setCell k v
      clear B
      go_wp2_with fail
      exact ⟨⟨k + 1, by omega, by go_num, BS, oS _⟩, by simp [intOf]; omega⟩
    · have hk' : k = m := by omega
      subst hk'
      have M0 := M0.only oB (by omega)
      have M1 := M1.only oB (by omega)
      have dr := d4.trans (oB.below (by omega) |>.mono (by omega))
      have R0r := R0.below dr
      have hinfo1 : (Try.prog.info? 3).map (·.size) = some 1 := by kernel_rfl
      have hsp := hide (splice_lon asn k n0 f)
      have hcl : Hid ((ncells .i64 ((List.range n0).map f)).length = n0) := by show _ = _; rw [nc_len]; simp
      have hcr : Hid ((ncells .i64 (List.replicate k asn ++ List.replicate (k + n0 - k) 0)).length = k + n0) := by show _ = _; rw [nc_len]; simp
      have hone := hide (nc_one .i64 ((List.range n0).map f))
      have hsrc := hide (R0r.rowN).cells
      have hB := hide (show wr.heap[gp]? = some (.cells (ncells .i64 (List.replicate k asn ++ List.replicate (k + n0 - k) 0)).toArray 3 (0, 0)) from B)
      have hgp := B.lt
      clear B oB d4
      generalize ncells .i64 (List.replicate k asn ++ List.replicate (k + n0 - k) 0) = cur at *
      generalize hcs : ncells .i64 ((List.range n0).map f) = cs at *
      clear hcs
      have q1 := M0.2.1 1 _ rfl
      have hk1 : (k : Int) ≤ (k : Int) + (n0 : Int) := by omega
      have hlt0 := M0.1
      have dZ : Below wr.heap.size wr wr := Below.refl _ _
      by_cases hz : n0 = 0
      · subst hz
        go_wp2_with fail
        go_region_held3 (fun w' => w'.cell? ⟨w.heap.size, 1, none⟩ = some (.slice (some ⟨x, 0, none⟩) 0 c0)) (first | go_keep | exact (hbC.cell (p := ⟨w.heap.size, 1, none⟩) (by omega)).trans q1 | exact (hbC.cell (p := ⟨w.heap.size, 1, none⟩) (by simp; omega)).trans q1)
          ((refine step_copy_splice (by rfl) _ _ _ _ (by rfl) 3 Try.underlying70 hinfo1 _ _ _ _ _ _ (by rfl) (by rfl) gp k cur 3 (by first | exact hB.out) cs (by rw [hcl.out]; simp) (by
                intro hp
                rw [hcl.out] at hp
                first
                  | omega
                  | exact ⟨rfl, _, rfl, hsrc.out⟩) (by rw [hcl.out, hcr.out]; exact Nat.le_refl _) hone.out gp wr (by first | exact dZ.mono (by omega) | exact dZ.drew.mono (by omega)) (Nat.le_refl _) ?_; intro wC hgC hbC))
        all_goals
          have BC : BkI wC gp (lon asn k 0 f) := by
            have h := hgC.out
            rw [hsp.out] at h
            exact h
          have M0 := M0.base (by omega) hbC
          have M1 := M1.base (by omega) hbC
          have dC := dr.trans (hbC.mono (by omega))
          have OC := BC.out
          rw [lon_len] at OC
          have y1 := M0.2.1 1 _ rfl
          have z1 := M0.2.2 1 (by simp)
          have hS : Only w.heap.size wC (wC.setCell ⟨w.heap.size, 1, none⟩ (.slice (some ⟨gp, 0, none⟩) (k) (k))) := (Only.refl _ _).setCell _ _
          have M0S := M0.set 1 (.slice (some ⟨gp, 0, none⟩) (k) (k))
          have M1S := M1.only hS (by omega)
          have OS := OC.only hS (by omega)
          have dS := dC.trans (hS.below (by have := M0.1; omega) |>.mono (Nat.le_refl _))
          have y5 := M0.2.1 5 _ rfl
          have x5 := M0S.2.1 5 _ rfl
          clear BC OC M0 M1 dC hbC hgC hsp hcl hcr hone hsrc hB
          go_wp2_with fail
          generalize wC.setCell ⟨w.heap.size, 1, none⟩ (.slice (some ⟨gp, 0, none⟩) (k) (k)) = wS at *
          refine (CL.out _ (R1.below dS)).mono ?_
          rintro e w6 ⟨q, qc, rfl, hq, OQ, b6⟩
          have hgq := OS.1
          have M0S := M0S.below b6
          have M1S := M1S.below b6
          have OS := OS.below b6
          have d6 := dS.trans (b6.mono dS.size)
          clear b6 dS y1 z1 y5 x5
          have e0 := M0S.2.1 0 _ rfl
          have e1 := M0S.2.1 1 _ rfl
          have e2 := M0S.2.1 2 _ rfl
          have e3 := M0S.2.1 3 _ rfl
          have e4 := M0S.2.1 4 _ rfl
          have e5 := M0S.2.1 5 _ rfl
          have ez := M0S.2.2 5 (by simp)
          have m0 := M1S.2.1 0 _ rfl
          have f0 := M1S.2.2 0 (by simp)
          have m1 := M1S.2.1 1 _ rfl
          have f1 := M1S.2.2 1 (by simp)
          have m2 := M1S.2.1 2 _ rfl
          have f2 := M1S.2.2 2 (by simp)
          have m3 := M1S.2.1 3 _ rfl
          have f3 := M1S.2.2 3 (by simp)
          have m4 := M1S.2.1 4 _ rfl
          have f4 := M1S.2.2 4 (by simp)
          have m5 := M1S.2.1 5 _ rfl
          have f5 := M1S.2.2 5 (by simp)
          have z0 := M0S.1
          have z1 := M1S.1
          go_wp2_with fail
          have hF0 : Only w.heap.size w6 (w6.setCell ⟨w.heap.size, 5, none⟩ (.slice (some ⟨q, 0, none⟩) n1 qc)) := (Only.refl _ _).setCell _ _
          have hF : ∀ a1 a2 a3 a4 a5 a6 : Value, Only (w.heap.size + 1) (w6.setCell ⟨w.heap.size, 5, none⟩ (.slice (some ⟨q, 0, none⟩) n1 qc)) (((((((w6.setCell ⟨w.heap.size, 5, none⟩ (.slice (some ⟨q, 0, none⟩) n1 qc)).setCell ⟨w.heap.size + 1, 0, none⟩ a1).setCell ⟨w.heap.size + 1, 1, none⟩ a2).setCell ⟨w.heap.size + 1, 2, none⟩ a3).setCell ⟨w.heap.size + 1, 3, none⟩ a4).setCell ⟨w.heap.size + 1, 4, none⟩ a5).setCell ⟨w.heap.size + 1, 5, none⟩ a6) := fun _ _ _ _ _ _ => ((((((Only.refl _ _).setCell _ _).setCell _ _).setCell _ _).setCell _ _).setCell _ _).setCell _ _
          have zz := hF0.2.2.2.1
          exact bodyPost_ret (v := .tuple #[.agg #[.int .i64 o, .slice (some ⟨gp, 0, none⟩) (k) (k), .int .i64 nx, .int .i64 md, .int .i64 pf, .slice (some ⟨q, 0, none⟩) n1 qc], .bool true]) (by simp [results, Try.results63, go_sem, m0, m1, m2, m3, m4, m5]) rfl
            ⟨gp, k, q, qc, rfl, by omega, by omega, by omega, (OS.only hF0 (by omega)).only (hF _ _ _ _ _ _) (by omega), (OQ.only hF0 (by omega)).only (hF _ _ _ _ _ _) (by omega), (d6.trans (hF0.below (by omega) |>.mono (Nat.le_refl _))).trans ((hF _ _ _ _ _ _).below (by omega) |>.mono (by omega))⟩
      · have hpos : 0 < n0 := by omega
        have hk2 : (k : Int) < (k : Int) + (n0 : Int) := by omega
        go_wp2_with fail
        go_region_held3 (fun w' => w'.cell? ⟨w.heap.size, 1, none⟩ = some (.slice (some ⟨x, 0, none⟩) n0 c0)) (first | go_keep | exact (hbC.cell (p := ⟨w.heap.size, 1, none⟩) (by omega)).trans q1 | exact (hbC.cell (p := ⟨w.heap.size, 1, none⟩) (by simp; omega)).trans q1)
          ((refine step_copy_splice (by rfl) _ _ _ _ (by rfl) 3 Try.underlying70 hinfo1 _ _ _ _ _ _ (by rfl) (by rfl) gp k cur 3 (by first | exact hB.out) cs (by rw [hcl.out]; simp) (by
                intro hp
                rw [hcl.out] at hp
                first
                  | omega
                  | exact ⟨rfl, _, rfl, hsrc.out⟩) (by rw [hcl.out, hcr.out]; exact Nat.le_refl _) hone.out gp wr (by first | exact dZ.mono (by omega) | exact dZ.drew.mono (by omega)) (Nat.le_refl _) ?_; intro wC hgC hbC))
        all_goals
          have BC : BkI wC gp (lon asn k n0 f) := by
            have h := hgC.out
            rw [hsp.out] at h
            exact h
          have M0 := M0.base (by omega) hbC
          have M1 := M1.base (by omega) hbC
          have dC := dr.trans (hbC.mono (by omega))
          have OC := BC.out
          rw [lon_len] at OC
          have y1 := M0.2.1 1 _ rfl
          have z1 := M0.2.2 1 (by simp)
          have hS : Only w.heap.size wC (wC.setCell ⟨w.heap.size, 1, none⟩ (.slice (some ⟨gp, 0, none⟩) (k + n0) (k + n0))) := (Only.refl _ _).setCell _ _
          have M0S := M0.set 1 (.slice (some ⟨gp, 0, none⟩) (k + n0) (k + n0))
          have M1S := M1.only hS (by omega)
          have OS := OC.only hS (by omega)
          have dS := dC.trans (hS.below (by have := M0.1; omega) |>.mono (Nat.le_refl _))
          have y5 := M0.2.1 5 _ rfl
          have x5 := M0S.2.1 5 _ rfl
          clear BC OC M0 M1 dC hbC hgC hsp hcl hcr hone hsrc hB
          go_wp2_with fail
          generalize wC.setCell ⟨w.heap.size, 1, none⟩ (.slice (some ⟨gp, 0, none⟩) (k + n0) (k + n0)) = wS at *
          refine (CL.out _ (R1.below dS)).mono ?_
          rintro e w6 ⟨q, qc, rfl, hq, OQ, b6⟩
          have hgq := OS.1
          have M0S := M0S.below b6
          have M1S := M1S.below b6
          have OS := OS.below b6
          have d6 := dS.trans (b6.mono dS.size)
          clear b6 dS y1 z1 y5 x5
          have e0 := M0S.2.1 0 _ rfl
          have e1 := M0S.2.1 1 _ rfl
          have e2 := M0S.2.1 2 _ rfl
          have e3 := M0S.2.1 3 _ rfl
          have e4 := M0S.2.1 4 _ rfl
          have e5 := M0S.2.1 5 _ rfl
          have ez := M0S.2.2 5 (by simp)
          have m0 := M1S.2.1 0 _ rfl
          have f0 := M1S.2.2 0 (by simp)
          have m1 := M1S.2.1 1 _ rfl
          have f1 := M1S.2.2 1 (by simp)
          have m2 := M1S.2.1 2 _ rfl
          have f2 := M1S.2.2 2 (by simp)
          have m3 := M1S.2.1 3 _ rfl
          have f3 := M1S.2.2 3 (by simp)
          have m4 := M1S.2.1 4 _ rfl
          have f4 := M1S.2.2 4 (by simp)
          have m5 := M1S.2.1 5 _ rfl
          have f5 := M1S.2.2 5 (by simp)
          have z0 := M0S.1
          have z1 := M1S.1
          go_wp2_with fail
          have hF0 : Only w.heap.size w6 (w6.setCell ⟨w.heap.size, 5, none⟩ (.slice (some ⟨q, 0, none⟩) n1 qc)) := (Only.refl _ _).setCell _ _
          have hF : ∀ a1 a2 a3 a4 a5 a6 : Value, Only (w.heap.size + 1) (w6.setCell ⟨w.heap.size, 5, none⟩ (.slice (some ⟨q, 0, none⟩) n1 qc)) (((((((w6.setCell ⟨w.heap.size, 5, none⟩ (.slice (some ⟨q, 0, none⟩) n1 qc)).setCell ⟨w.heap.size + 1, 0, none⟩ a1).setCell ⟨w.heap.size + 1, 1, none⟩ a2).setCell ⟨w.heap.size + 1, 2, none⟩ a3).setCell ⟨w.heap.size + 1, 3, none⟩ a4).setCell ⟨w.heap.size + 1, 4, none⟩ a5).setCell ⟨w.heap.size + 1, 5, none⟩ a6) := fun _ _ _ _ _ _ => ((((((Only.refl _ _).setCell _ _).setCell _ _).setCell _ _).setCell _ _).setCell _ _).setCell _ _
          have zz := hF0.2.2.2.1
          exact bodyPost_ret (v := .tuple #[.agg #[.int .i64 o, .slice (some ⟨gp, 0, none⟩) (k + n0) (k + n0), .int .i64 nx, .int .i64 md, .int .i64 pf, .slice (some ⟨q, 0, none⟩) n1 qc], .bool true]) (by simp [results, Try.results63, go_sem, m0, m1, m2, m3, m4, m5]) rfl
            ⟨gp, k + n0, q, qc, rfl, by omega, by omega, by omega, (OS.only hF0 (by omega)).only (hF _ _ _ _ _ _) (by omega), (OQ.only hF0 (by omega)).only (hF _ _ _ _ _ _) (by omega), (d6.trans (hF0.below (by omega) |>.mono (Nat.le_refl _))).trans ((hF _ _ _ _ _ _).below (by omega) |>.mono (by omega))⟩
end Go.Proofs.Ytofalilkephkpaa
