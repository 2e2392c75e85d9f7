/- What the specification's PrependPath answers. -/
import Derived.Test.YtofalilkephkpaaS4p
namespace Go.Proofs.Ytofalilkephkpaa
open Go.RowKit

theorem src1 (w : World) (asn : Int) (t : TypeId) : SrcN .i64 (some ⟨w.heap.size, 0, none⟩) [asn] 1 (w.alloc (.cells #[.int .i64 asn] t)) := by
  refine ⟨fun i hi => ?_, .inr ⟨_, _, rfl⟩⟩
  have : i = 0 := by simpa using hi
  subst this
  exact ⟨w.heap.size, 0, rfl, by simp, by simp [go_sem]⟩
theorem map_get {n : Nat} (g : Nat → Int) : ∀ i, i < n → ((List.range n).map g).getD i 0 = g i := by
  intro i hi
  simp [List.getD_eq_getElem?_getD, hi]
theorem only_of_grown {w w' : World} {v : Value} {c : Nat} (h : w.grownBy w' v.ownBlock) (hv : v.ownBlock = some c) : Only c w w' :=
  ⟨h.os, h.tape, h.output, h.size, fun k hk hne => h.block k hk (by rw [hv]; simpa using hne)⟩
/-- A good answer of PrependPath. -/
def AnsA (base : Nat) (o nx md pf : Int) (N : Nat) (F : Nat → Int) (n1 : Nat) (g : Nat → Int) (e : Ending) (w w' : World) : Prop :=
  ∃ p pc q qc, e = .returned (.tuple #[.agg #[.int .i64 o, .slice (some ⟨p, 0, none⟩) N pc, .int .i64 nx, .int .i64 md, .int .i64 pf, .slice (some ⟨q, 0, none⟩) n1 qc], .bool true]) ∧ base ≤ p ∧ base ≤ q ∧ p ≠ q ∧ OutInt p N N F w' ∧ OutInt q n1 n1 g w' ∧ Below base w w' 
set_option maxRecDepth 100000 in
set_option maxHeartbeats 1600000 in
theorem s_prepend_no1 (o nx md pf : Int) (x n0 c0 : Nat) (f : Nat → Int) (y n1 c1 : Nat) (g : Nat → Int) (asn many : Int) (w : World) (h0 : n0 ≤ 1048576) (h1 : n1 ≤ 1048576) (R0 : RowInt (some ⟨x, 0, none⟩) n0 f w) (R1 : RowInt (some ⟨y, 0, none⟩) n1 g w) (hn : attrB o nx md pf n0 f n1 g = false ∨ inB asn 1 65535 = false ∨ inB many 1 10 = false) :
    Calls Try.prog 62 #[.agg #[.int .i64 o, .slice (some ⟨x, 0, none⟩) n0 c0, .int .i64 nx, .int .i64 md, .int .i64 pf, .slice (some ⟨y, 0, none⟩) n1 c1], .int .i64 asn, .int .i64 many] w fun e w' => e = .returned (.tuple #[.agg #[.int .i64 0, .slice none 0 0, .int .i64 0, .int .i64 0, .int .i64 0, .slice none 0 0], .bool false]) ∧ Below w.heap.size w w' := by
  have s1 := hide (fun w R0 R1 => s_goodAttrs o nx md pf (some ⟨x, 0, none⟩) n0 c0 f (some ⟨y, 0, none⟩) n1 c1 g w h0 h1 R0 R1)
  have t1 := hide (fun w => s_in asn 1 65535 w)
  have t2 := hide (fun w => s_in many 1 10 w)
  generalize attrB o nx md pf n0 f n1 g = rA at *
  generalize inB asn 1 65535 = rB at *
  generalize inB many 1 10 = rC at *
  have d : Below w.heap.size w ((w.alloc (.cells #[.int .i64 o, .slice (some ⟨x, 0, none⟩) n0 c0, .int .i64 nx, .int .i64 md, .int .i64 pf, .slice (some ⟨y, 0, none⟩) n1 c1] 75)).alloc (.cells #[.int .i64 0, .slice none 0 0, .int .i64 0, .int .i64 0, .int .i64 0, .slice none 0 0] 75)) := below_box2 (Below.refl _ _)
  have M1 := Mut.new (w.alloc (.cells #[.int .i64 o, .slice (some ⟨x, 0, none⟩) n0 c0, .int .i64 nx, .int .i64 md, .int .i64 pf, .slice (some ⟨y, 0, none⟩) n1 c1] 75)) #[.int .i64 0, .slice none 0 0, .int .i64 0, .int .i64 0, .int .i64 0, .slice none 0 0] 75
  simp only [World.size_alloc] at M1
  clear h0 h1
  cases rA with
  | false =>
    clear hn
    go_enter Try.func62, Try.ntmps62
    go_wp2_with fail
    generalize (w.alloc (.cells #[.int .i64 o, .slice (some ⟨x, 0, none⟩) n0 c0, .int .i64 nx, .int .i64 md, .int .i64 pf, .slice (some ⟨y, 0, none⟩) n1 c1] 75)).alloc (.cells #[.int .i64 0, .slice none 0 0, .int .i64 0, .int .i64 0, .int .i64 0, .slice none 0 0] 75) = w1 at *
    refine (s1.out _ (R0.below d) (R1.below d)).mono ?_
    rintro e w2 ⟨rfl, b2⟩
    have M1 := M1.below b2
    have d2 := d.trans (b2.mono d.size)
    have k0 := M1.2.1 0 _ rfl
    have j0 := M1.2.2 0 (by simp)
    have k1 := M1.2.1 1 _ rfl
    have j1 := M1.2.2 1 (by simp)
    have k2 := M1.2.1 2 _ rfl
    have j2 := M1.2.2 2 (by simp)
    have k3 := M1.2.1 3 _ rfl
    have j3 := M1.2.2 3 (by simp)
    have k4 := M1.2.1 4 _ rfl
    have j4 := M1.2.2 4 (by simp)
    have k5 := M1.2.1 5 _ rfl
    have j5 := M1.2.2 5 (by simp)
    go_wp2_with fail
    exact bodyPost_ret (v := .tuple #[.agg #[.int .i64 0, .slice none 0 0, .int .i64 0, .int .i64 0, .int .i64 0, .slice none 0 0], .bool false]) (by simp [results, Try.results62, go_sem, k0, k1, k2, k3, k4, k5]) rfl ⟨rfl, by refine Below.setCell (Below.setCell (Below.setCell (Below.setCell (Below.setCell (Below.setCell d2 ?_ _) ?_ _) ?_ _) ?_ _) ?_ _) ?_ _ <;> simp⟩
  | true =>
    cases rB with
    | false =>
      clear hn
      go_enter Try.func62, Try.ntmps62
      go_wp2_with fail
      generalize (w.alloc (.cells #[.int .i64 o, .slice (some ⟨x, 0, none⟩) n0 c0, .int .i64 nx, .int .i64 md, .int .i64 pf, .slice (some ⟨y, 0, none⟩) n1 c1] 75)).alloc (.cells #[.int .i64 0, .slice none 0 0, .int .i64 0, .int .i64 0, .int .i64 0, .slice none 0 0] 75) = w1 at *
      refine (s1.out _ (R0.below d) (R1.below d)).mono ?_
      rintro e w2 ⟨rfl, b2⟩
      have M1 := M1.below b2
      have d2 := d.trans (b2.mono d.size)
      have k0 := M1.2.1 0 _ rfl
      have j0 := M1.2.2 0 (by simp)
      have k1 := M1.2.1 1 _ rfl
      have j1 := M1.2.2 1 (by simp)
      have k2 := M1.2.1 2 _ rfl
      have j2 := M1.2.2 2 (by simp)
      have k3 := M1.2.1 3 _ rfl
      have j3 := M1.2.2 3 (by simp)
      have k4 := M1.2.1 4 _ rfl
      have j4 := M1.2.2 4 (by simp)
      have k5 := M1.2.1 5 _ rfl
      have j5 := M1.2.2 5 (by simp)
      go_wp2_with fail
      refine (t1.out _).mono ?_
      rintro e w3 ⟨rfl, rfl⟩
      go_wp2_with fail
      exact bodyPost_ret (v := .tuple #[.agg #[.int .i64 0, .slice none 0 0, .int .i64 0, .int .i64 0, .int .i64 0, .slice none 0 0], .bool false]) (by simp [results, Try.results62, go_sem, k0, k1, k2, k3, k4, k5]) rfl ⟨rfl, by refine Below.setCell (Below.setCell (Below.setCell (Below.setCell (Below.setCell (Below.setCell d2 ?_ _) ?_ _) ?_ _) ?_ _) ?_ _) ?_ _ <;> simp⟩
    | true =>
      obtain rfl : rC = false := by simpa using hn
      clear hn
      go_enter Try.func62, Try.ntmps62
      go_wp2_with fail
      generalize (w.alloc (.cells #[.int .i64 o, .slice (some ⟨x, 0, none⟩) n0 c0, .int .i64 nx, .int .i64 md, .int .i64 pf, .slice (some ⟨y, 0, none⟩) n1 c1] 75)).alloc (.cells #[.int .i64 0, .slice none 0 0, .int .i64 0, .int .i64 0, .int .i64 0, .slice none 0 0] 75) = w1 at *
      refine (s1.out _ (R0.below d) (R1.below d)).mono ?_
      rintro e w2 ⟨rfl, b2⟩
      have M1 := M1.below b2
      have d2 := d.trans (b2.mono d.size)
      have k0 := M1.2.1 0 _ rfl
      have j0 := M1.2.2 0 (by simp)
      have k1 := M1.2.1 1 _ rfl
      have j1 := M1.2.2 1 (by simp)
      have k2 := M1.2.1 2 _ rfl
      have j2 := M1.2.2 2 (by simp)
      have k3 := M1.2.1 3 _ rfl
      have j3 := M1.2.2 3 (by simp)
      have k4 := M1.2.1 4 _ rfl
      have j4 := M1.2.2 4 (by simp)
      have k5 := M1.2.1 5 _ rfl
      have j5 := M1.2.2 5 (by simp)
      go_wp2_with fail
      refine (t1.out _).mono ?_
      rintro e w3 ⟨rfl, rfl⟩
      go_wp2_with fail
      refine (t2.out _).mono ?_
      rintro e w3 ⟨rfl, rfl⟩
      go_wp2_with fail
      exact bodyPost_ret (v := .tuple #[.agg #[.int .i64 0, .slice none 0 0, .int .i64 0, .int .i64 0, .int .i64 0, .slice none 0 0], .bool false]) (by simp [results, Try.results62, go_sem, k0, k1, k2, k3, k4, k5]) rfl ⟨rfl, by refine Below.setCell (Below.setCell (Below.setCell (Below.setCell (Below.setCell (Below.setCell d2 ?_ _) ?_ _) ?_ _) ?_ _) ?_ _) ?_ _ <;> simp⟩
set_option maxRecDepth 100000 in
set_option maxHeartbeats 6400000 in
theorem s_prepend_go (ok : Bool) (o nx md pf : Int) (x n0 c0 : Nat) (f : Nat → Int) (y n1 c1 : Nat) (g : Nat → Int) (asn : Int) (m : Nat) (w : World) (h0 : n0 ≤ 1048576) (h1 : n1 ≤ 1048576) (R0 : RowInt (some ⟨x, 0, none⟩) n0 f w) (R1 : RowInt (some ⟨y, 0, none⟩) n1 g w) (ha : attrB o nx md pf n0 f n1 g = true) (hs : inB asn 1 65535 = true) (hm : 1 ≤ m) (hm2 : m ≤ 10) (hok : decide (m + n0 ≤ 10) = ok) :
    Calls Try.prog 62 #[.agg #[.int .i64 o, .slice (some ⟨x, 0, none⟩) n0 c0, .int .i64 nx, .int .i64 md, .int .i64 pf, .slice (some ⟨y, 0, none⟩) n1 c1], .int .i64 asn, .int .i64 m] w fun e w' => if ok then AnsA w.heap.size o nx md pf (m + n0) (fun i => (lon asn m n0 f).getD i 0) n1 g e w w' else e = .returned (.tuple #[.agg #[.int .i64 0, .slice none 0 0, .int .i64 0, .int .i64 0, .int .i64 0, .slice none 0 0], .bool false]) ∧ Below w.heap.size w w' := by
  have hn0 : n0 ≤ 10 ∧ n1 ≤ 6 := by
    unfold attrB at ha
    simp only [Bool.and_eq_true, decide_eq_true_eq] at ha
    exact ⟨ha.1.1.1.2, ha.1.2⟩
  have s1 := hide (fun w R0 R1 => s_goodAttrs o nx md pf (some ⟨x, 0, none⟩) n0 c0 f (some ⟨y, 0, none⟩) n1 c1 g w h0 h1 R0 R1)
  have t1 := hide (fun w => s_in asn 1 65535 w)
  have t2 := hide (fun w => s_in (m : Int) 1 10 w)
  rw [ha] at s1
  rw [hs] at t1
  rw [inB_t (by omega) (by omega)] at t2
  have s2 := hide (fun w S0 S1 => s_own4 o nx md pf (some ⟨x, 0, none⟩) n0 c0 f (some ⟨y, 0, none⟩) n1 c1 g w hn0.1 (by omega) S0 S1)
  have s3 := hide (fun pa pc qa qc w R0 R1 => s_goodAttrs o nx md pf pa (m + n0) pc (fun i => (lon asn m n0 f).getD i 0) qa n1 qc g w (by omega) h1 R0 R1)
  rw [lon_attr hm ha hs, hok] at s3
  have hlon := hide (lon_len asn m n0 f)
  have hld : Hid (lon asn m n0 f = List.replicate m asn ++ (List.range n0).map f) := rfl
  have d : Below w.heap.size w ((w.alloc (.cells #[.int .i64 o, .slice (some ⟨x, 0, none⟩) n0 c0, .int .i64 nx, .int .i64 md, .int .i64 pf, .slice (some ⟨y, 0, none⟩) n1 c1] 75)).alloc (.cells #[.int .i64 0, .slice none 0 0, .int .i64 0, .int .i64 0, .int .i64 0, .slice none 0 0] 75)) := below_box2 (Below.refl _ _)
  have M0 := (Mut.new w #[.int .i64 o, .slice (some ⟨x, 0, none⟩) n0 c0, .int .i64 nx, .int .i64 md, .int .i64 pf, .slice (some ⟨y, 0, none⟩) n1 c1] 75).alloc (.cells #[.int .i64 0, .slice none 0 0, .int .i64 0, .int .i64 0, .int .i64 0, .slice none 0 0] 75)
  have M1 := Mut.new (w.alloc (.cells #[.int .i64 o, .slice (some ⟨x, 0, none⟩) n0 c0, .int .i64 nx, .int .i64 md, .int .i64 pf, .slice (some ⟨y, 0, none⟩) n1 c1] 75)) #[.int .i64 0, .slice none 0 0, .int .i64 0, .int .i64 0, .int .i64 0, .slice none 0 0] 75
  simp only [World.size_alloc] at M1
  have hmp := hide hm
  have hl0 := hide (show n0 = ((List.range n0).map f).length by simp)
  clear ha hs h0 h1 hok
  go_enter Try.func62, Try.ntmps62
  go_wp2_with fail
  generalize (w.alloc (.cells #[.int .i64 o, .slice (some ⟨x, 0, none⟩) n0 c0, .int .i64 nx, .int .i64 md, .int .i64 pf, .slice (some ⟨y, 0, none⟩) n1 c1] 75)).alloc (.cells #[.int .i64 0, .slice none 0 0, .int .i64 0, .int .i64 0, .int .i64 0, .slice none 0 0] 75) = w1 at *
  refine (s1.out _ (R0.below d) (R1.below d)).mono ?_
  rintro e w2 ⟨rfl, b2⟩
  have M0 := M0.below b2
  have M1 := M1.below b2
  have d2 := d.trans (b2.mono d.size)
  have R0 := R0.below d2
  have R1 := R1.below d2
  clear s1 b2 d
  go_wp2_with fail
  refine (t1.out _).mono ?_
  rintro e w3 ⟨rfl, rfl⟩
  go_wp2_with fail
  refine (t2.out _).mono ?_
  rintro e w3 ⟨rfl, rfl⟩
  clear t1 t2
  have hz3 := M1.1
  go_wp2_with fail
  go_loopw [2, 8] (fun x t wr => ∃ k : Nat, k ≤ m ∧ x = .int .i64 ((m : Int) - k) ∧ OwnN 3 .i64 w3.heap.size t (List.replicate k asn) wr ∧ Below w3.heap.size w3 wr) (fun x _ _ => (intOf x).toNat)
  case atStart => exact ⟨0, Nat.zero_le _, by simp, ownN_nil _ _ _ _, Below.refl _ _⟩
  case round =>
    obtain ⟨k, hk, rfl, hown, hb⟩ := hrel
    by_cases hlt : k < m
    · have hgt : (m : Int) - k > 0 := by omega
      have hownA := ownN_below hown (below_box (Below.refl (wr.alloc (.cells #[.int .i64 asn] 3)).heap.size (wr.alloc (.cells #[.int .i64 asn] 3))))
      have hsrc := src1 wr asn 3
      have hbA : Below w3.heap.size w3 (wr.alloc (.cells #[.int .i64 asn] 3)) := hb.trans ((below_box (Below.refl _ _)).mono hb.size)
      have hbs := hbA.size
      have hLL : Hid ((List.replicate k asn).length + [asn].length ≤ 8589934593) := by show _ ≤ _; simp; omega
      have hS := hide (show List.replicate (k + 1) asn = List.replicate k asn ++ [asn] from List.replicate_succ')
      clear hown hb M0 M1 s2 s3 R0 R1
      generalize List.replicate k asn = L at hownA hLL hS
      go_wp2_with (first | (at_builtin; refine wpList_appN numInt rfl _ _ rfl w3.heap.size _ L rfl hownA _ [asn] 1 1 rfl rfl hsrc hLL.out (by decide) hbs ?_))
      intro v4 w4 own4 b4 _ _
      go_wp2_with fail
      exact ⟨⟨k + 1, by omega, by congr 1; omega, by rw [hS.out]; exact own4, hbA.trans b4⟩, by simp [intOf]; omega⟩
    · have hk' : k = m := by omega
      subst hk'
      have hgt : ¬ ((k : Int) - k > 0) := by omega
      obtain ⟨pg, pcap, rfl, hpg0, hpg1⟩ := ownN_shape hown (by intro e; have := congrArg List.length e; simp at this; omega)
      rw [List.length_replicate] at hown
      have M0 := M0.base M0.1 hb
      have M1 := M1.base M1.1 hb
      have dr := d2.trans (hb.mono d2.size)
      have R0 := R0.below hb
      have R1 := R1.below hb
      have hbz := hb.size
      clear hb d2
      have u0 := M0.2.1 0 _ rfl
      have u1 := M0.2.1 1 _ rfl
      have u2 := M0.2.1 2 _ rfl
      have u3 := M0.2.1 3 _ rfl
      have u4 := M0.2.1 4 _ rfl
      have u5 := M0.2.1 5 _ rfl
      go_wp2_with fail
      refine (s2.out _ ⟨R0.rowN, .inr ⟨_, _, rfl⟩⟩ ⟨R1.rowN, .inr ⟨_, _, rfl⟩⟩).mono ?_
      rintro e w5 ⟨pa, pl, pc, q, qc, rfl, ownC, b5⟩
      have hq0 : wr.heap.size ≤ q ∧ q < w5.heap.size := World.ownsRow.lt ownC q rfl
      have ownP := ownN_below hown b5
      have M0 := M0.below b5
      have M1 := M1.below b5
      have R0 := R0.below b5
      have d5 := dr.trans (b5.mono dr.size)
      have hz5 := b5.size
      clear b5 dr hown
      have bB : Below w5.heap.size w5 (w5.alloc (.cells #[.int .i64 o, .slice pa pl pc, .int .i64 nx, .int .i64 md, .int .i64 pf, .slice (some ⟨q, 0, none⟩) n1 qc] 75)) := below_box (Below.refl _ _)
      have K := Mut.new w5 #[.int .i64 o, .slice pa pl pc, .int .i64 nx, .int .i64 md, .int .i64 pf, .slice (some ⟨q, 0, none⟩) n1 qc] 75
      have M0 := M0.below bB
      have M1 := M1.below bB
      have R0 := R0.below bB
      have ownP := ownN_below ownP bB
      have ownC := ownN_below ownC bB
      have d6 := d5.trans (bB.mono d5.size)
      have hz6 := bB.size
      have u1 := M0.2.1 1 _ rfl
      have S0 : SrcN .i64 (some ⟨x, 0, none⟩) ((List.range n0).map f) c0 (w5.alloc (.cells #[.int .i64 o, .slice pa pl pc, .int .i64 nx, .int .i64 md, .int .i64 pf, .slice (some ⟨q, 0, none⟩) n1 qc] 75)) := ⟨R0.rowN, .inr ⟨_, _, rfl⟩⟩
      have hLL : Hid ((List.replicate k asn).length + ((List.range n0).map f).length ≤ 8589934593) := by show _ ≤ _; simp; omega
      have hb6 : w3.heap.size ≤ (w5.alloc (.cells #[.int .i64 o, .slice pa pl pc, .int .i64 nx, .int .i64 md, .int .i64 pf, .slice (some ⟨q, 0, none⟩) n1 qc] 75)).heap.size := by omega
      clear bB d5 R0 R1
      go_wp2_with (first | (at_builtin; refine wpList_appN numInt rfl _ _ rfl w3.heap.size _ (List.replicate k asn) rfl ownP _ ((List.range n0).map f) n0 c0 rfl hl0.out S0 hLL.out (by decide) hb6 ?_))
      intro v7 w7 own7 b7 gr7 hbl
      have o7 : Only pg _ w7 := only_of_grown gr7 rfl
      rw [← hld.out] at own7
      obtain ⟨rg, rcap, rfl, hrg0, hrg1⟩ := ownN_shape own7 (by intro e; have := congrArg List.length e; rw [hlon.out] at this; simp at this; omega)
      have hrg : rg = pg ∨ rg = w5.heap.size + 1 := by
        rcases hbl with h | h
        · exact .inl (by simpa [Value.ownBlock] using h)
        · exact .inr (by simpa [Value.ownBlock] using h)
      have O7 := ownN_out own7
      rw [hlon.out] at O7
      rw [hlon.out]
      have K := K.only o7 (by omega)
      have M1 := M1.base (by have := M1.1; omega) b7
      have OC : OutInt q n1 n1 g w7 := by
        have h := ownN_only ownC o7 (by simp [Value.ownBlock]; omega)
        have h2 := ownN_out (L := (List.range n1).map g) (by rw [List.length_map, List.length_range]; exact h)
        rw [List.length_map, List.length_range] at h2
        exact h2.congr (map_get g)
      have d7 := d6.trans (b7.mono (by have := M1.1; omega))
      clear b7 gr7 hbl o7 own7 ownP ownC d6 S0 M0
      have k1 := K.2.1 1 _ rfl
      have z1 := K.2.2 1 (by simp)
      have hS8 : Only w5.heap.size w7 (w7.setCell ⟨w5.heap.size, 1, none⟩ (.slice (some ⟨rg, 0, none⟩) (k + n0) rcap)) := (Only.refl _ _).setCell _ _
      have K8 := K.set 1 (.slice (some ⟨rg, 0, none⟩) (k + n0) rcap)
      have M8 := M1.only hS8 (by omega)
      have O8 := O7.only hS8 (by omega)
      have C8 := OC.only hS8 (by omega)
      have d8 : Below w.heap.size w (w7.setCell ⟨w5.heap.size, 1, none⟩ (.slice (some ⟨rg, 0, none⟩) (k + n0) rcap)) := d7.setCell (by simp; omega) _

      have e0 := K8.2.1 0 _ rfl
      have e1 := K8.2.1 1 _ rfl
      have e2 := K8.2.1 2 _ rfl
      have e3 := K8.2.1 3 _ rfl
      have e4 := K8.2.1 4 _ rfl
      have e5 := K8.2.1 5 _ rfl
      clear hS8 K M1 O7 OC d7
      go_wp2_with fail
      generalize w7.setCell ⟨w5.heap.size, 1, none⟩ (.slice (some ⟨rg, 0, none⟩) (k + n0) rcap) = w8 at *
      clear k1 z1 e0 e1 e2 e3 e4 e5
      refine (s3.out _ _ _ _ _ O8.row C8.row).mono ?_
      rintro e w9 ⟨rfl, b9⟩
      have K9 := K8.below b9
      have M9 := M8.below b9
      have O9 := O8.below b9
      have C9 := C8.below b9
      have d9 := d8.trans (b9.mono d8.size)
      have e0 := K9.2.1 0 _ rfl
      have m0 := M9.2.1 0 _ rfl
      have f0 := M9.2.2 0 (by simp)
      have e1 := K9.2.1 1 _ rfl
      have m1 := M9.2.1 1 _ rfl
      have f1 := M9.2.2 1 (by simp)
      have e2 := K9.2.1 2 _ rfl
      have m2 := M9.2.1 2 _ rfl
      have f2 := M9.2.2 2 (by simp)
      have e3 := K9.2.1 3 _ rfl
      have m3 := M9.2.1 3 _ rfl
      have f3 := M9.2.2 3 (by simp)
      have e4 := K9.2.1 4 _ rfl
      have m4 := M9.2.1 4 _ rfl
      have f4 := M9.2.2 4 (by simp)
      have e5 := K9.2.1 5 _ rfl
      have m5 := M9.2.1 5 _ rfl
      have f5 := M9.2.2 5 (by simp)
      clear K8 M8 O8 C8 b9 d8 s3 s2
      cases ok with
      | true =>
        go_wp2_with fail
        have hF : ∀ a1 a2 a3 a4 a5 a6 : Value, Only (w.heap.size + 1) w9 ((((((w9.setCell ⟨w.heap.size + 1, 0, none⟩ a1).setCell ⟨w.heap.size + 1, 1, none⟩ a2).setCell ⟨w.heap.size + 1, 2, none⟩ a3).setCell ⟨w.heap.size + 1, 3, none⟩ a4).setCell ⟨w.heap.size + 1, 4, none⟩ a5).setCell ⟨w.heap.size + 1, 5, none⟩ a6) := fun _ _ _ _ _ _ => ((((((Only.refl _ _).setCell _ _).setCell _ _).setCell _ _).setCell _ _).setCell _ _).setCell _ _
        have z9 := d9.size
        have zM := M9.1
        exact bodyPost_ret (v := .tuple #[.agg #[.int .i64 o, .slice (some ⟨rg, 0, none⟩) (k + n0) rcap, .int .i64 nx, .int .i64 md, .int .i64 pf, .slice (some ⟨q, 0, none⟩) n1 qc], .bool true]) (by simp [results, Try.results62, go_sem, m0, m1, m2, m3, m4, m5]) rfl (by
          exact ⟨rg, rcap, q, qc, rfl, by omega, by omega, by omega, O9.only (hF _ _ _ _ _ _) (by omega), C9.only (hF _ _ _ _ _ _) (by omega), d9.trans ((hF _ _ _ _ _ _).below (by omega) |>.mono (by omega))⟩)
      | false =>
        go_wp2_with fail
        exact bodyPost_ret (v := .tuple #[.agg #[.int .i64 0, .slice none 0 0, .int .i64 0, .int .i64 0, .int .i64 0, .slice none 0 0], .bool false]) (by simp [results, Try.results62, go_sem, m0, m1, m2, m3, m4, m5]) rfl (by
          exact ⟨rfl, by refine Below.setCell (Below.setCell (Below.setCell (Below.setCell (Below.setCell (Below.setCell d9 ?_ _) ?_ _) ?_ _) ?_ _) ?_ _) ?_ _ <;> simp⟩)
end Go.Proofs.Ytofalilkephkpaa
