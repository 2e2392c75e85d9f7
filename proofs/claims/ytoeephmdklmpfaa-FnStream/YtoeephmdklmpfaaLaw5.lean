/- What the laws do with lists of messages: how many bytes, marked, held. -/
import Derived.Test.YtoeephmdklmpfaaMemM
import Derived.Test.YtoeephmdklmpfaaW5a
import Derived.Test.YtoeephmdklmpfaaW3k
namespace Go.Proofs.Ytoeephmdklmpfaa
open Go.RowKit

/-- A number's digits ahead of a text. -/
def mtD (k : Nat) (out : ByteArray) : ByteArray := if _h : k = 0 then out else mtD (k / 10) (strOfNums [((48 + k % 10 : Nat) : Int)] ++ out)
termination_by k
decreasing_by omega
theorem mtD_zero (out : ByteArray) : mtD 0 out = out := by rw [mtD]; simp
theorem mtD_next {k : Nat} (h : k ≠ 0) (out : ByteArray) : mtD k out = mtD (k / 10) (strOfNums [((48 + k % 10 : Nat) : Int)] ++ out) := by rw [mtD, dif_neg h]
/-- The text that marks. -/
def mt (k : Nat) : ByteArray := ⟨#[109]⟩ ++ mtD k ByteArray.empty
set_option maxRecDepth 100000 in
set_option maxHeartbeats 800000 in
theorem w_markText (k : Nat) (w : World) (h0 : 1 ≤ k) (h1 : k ≤ 1000000000000) :
    Calls Try.prog 79 #[.int .i64 k] w fun e w' => e = .returned (.string (mt k)) ∧ Below w.heap.size w w' := by
  have hz : ¬ ((k : Int) ≤ 0) := by omega
  go_enter Try.func79, Try.ntmps79
  go_wp2_with fail
  go_loopw [0, 3] (fun x y wr => ∃ (q : Nat) (out : ByteArray), x = .int .i64 q ∧ y = .string out ∧ mtD q out = mtD k ByteArray.empty ∧ out.size + q ≤ k ∧ Below w.heap.size w wr) (fun x _ _ => (intOf x).toNat)
  case atStart => exact ⟨k, ByteArray.empty, rfl, rfl, rfl, by simp, Below.refl _ _⟩
  case round =>
    clear hz
    obtain ⟨q, out, rfl, rfl, hq, hs, hb⟩ := hrel
    by_cases hp : q = 0
    · subst hp
      rw [mtD_zero] at hq
      have hcat := fun (w : World) => run_string_add_sum (P := Try.prog) w ⟨#[109]⟩ out (by have : (ByteArray.mk #[109]).size = 1 := rfl; omega)
      have hm := hide hq
      clear hq
      go_wp2_with fail
      go_ret
      exact ⟨by rw [hm.out]; rfl, hb⟩
    · have hgt : (q : Int) > 0 := by omega
      have e1 : (q : Int).tmod 10 = ((q % 10 : Nat) : Int) := by rw [Int.tmod_eq_emod_of_nonneg (by omega)]; omega
      have e2 : (q : Int).tdiv 10 = ((q / 10 : Nat) : Int) := by rw [Int.tdiv_eq_ediv_of_nonneg (by omega)]; omega
      have e3 : IntKind.u8.wrap (48 + ((q % 10 : Nat) : Int)) = 48 + ((q % 10 : Nat) : Int) := by rw [u8_wrap]; omega
      rw [mtD_next hp] at hq
      rw [show ((48 + q % 10 : Nat) : Int) = 48 + ((q % 10 : Nat) : Int) by omega] at hq
      have hm := hide hq
      clear hq
      have hcat := fun (w : World) => run_string_add_sum (P := Try.prog) w (strOfNums [48 + ((q % 10 : Nat) : Int)]) out (by rw [strOfNums_size]; simp; omega)
      have hcv := run_convert_bytes_arg (P := Try.prog) (wr.alloc (.cells #[.int .u8 (48 + ((q % 10 : Nat) : Int))] 5)) 72 5 Try.underlying72 Try.underlying5 wr.heap.size 0 1 1 [48 + ((q % 10 : Nat) : Int)] rfl (fun i hi => by
        obtain rfl : i = 0 := by omega
        simp [go_sem]) 9 Try.underlying9
      have hqb := hide (show (strOfNums [48 + ((q % 10 : Nat) : Int)] ++ out).size + q / 10 ≤ k by rw [ByteArray.size_append, strOfNums_size]; simp; omega)
      have hql : q / 10 < q := by omega
      have hdb : ((q / 10 : Nat) : Int) ≤ 1000000000000 := by omega
      have hr : ((q % 10 : Nat) : Int) ≤ 9 := by omega
      generalize q % 10 = r at *
      generalize q / 10 = d at *
      go_wp2_with fail
      exact ⟨⟨d, _, rfl, rfl, hm.out, hqb.out, below_step hb (below_box (Below.refl _ _))⟩, by simp [intOf]; omega⟩
set_option maxRecDepth 100000 in
set_option maxHeartbeats 800000 in
theorem w_szMsgS (a : Option Addr) (len cap : Nat) (f0 : Nat → Int) (f1 : Nat → ByteArray) (left : Int) (w : World) (hl : len ≤ maxLen) (h0 : 0 ≤ left) (h1 : left ≤ 1048576) (hR : RowMsg a len f0 f1 w) (hb : ∀ i, i < len → (f1 i).size ≤ maxLen) :
    Calls Try.prog 80 #[.slice a len cap, .int .i64 left] w fun e w' => ∃ r : Int, e = .returned (.int .i64 r) ∧ (r = -1 ∨ (0 ≤ r ∧ r ≤ 1048576 ∧ len ≤ 1048576 ∧ ∀ i, i < len → (f1 i).size ≤ 1048576)) ∧ Below w.heap.size w w' := by
  unfold maxLen at hl
  by_cases h : (len : Int) ≤ left
  · have h2 : ¬ (left - (len : Int) < 0) := by omega
    go_enter Try.func80, Try.ntmps80
    go_wp2_with fail
    go_loopw [1, 5] (fun x i wr => ∃ (q : Nat) (l : Int), q ≤ len ∧ i = .int .i64 q ∧ x = .int .i64 l ∧ 0 ≤ l ∧ l ≤ 1048576 ∧ (∀ i, i < q → (f1 i).size ≤ 1048576) ∧ Below w.heap.size w wr) (fun _ i _ => len - (intOf i).toNat)
    case atStart => exact ⟨0, left - (len : Int), Nat.zero_le _, rfl, rfl, by omega, by omega, fun i hi => absurd hi (Nat.not_lt_zero _), Below.refl _ _⟩
    case round =>
      clear h2
      obtain ⟨q, l, hq, rfl, rfl, l0, l1, hs, hbw⟩ := hrel
      by_cases hlt : q < len
      · obtain ⟨b, off, rfl, hbb, c0, c1⟩ := hR q hlt
        have c0 := (hbw.cell (p := ⟨b, off + q * 2, none⟩) hbb).trans c0
        have c1 := (hbw.cell (p := ⟨b, off + q * 2 + 1, none⟩) hbb).trans c1
        have hlt' : (q : Int) < (len : Int) := by omega
        have Z := hide (fun w => w_szMsg (f0 q) (f1 q) l w (hb q hlt) l0 l1)
        by_cases hk : ((f1 q).size : Int) ≤ l
        · rw [if_pos hk] at Z
          have hn : ¬ (l - ((f1 q).size : Int) < 0) := by omega
          have hh := hide (⟨hs, hR, hb⟩ : (∀ i, i < q → (f1 i).size ≤ 1048576) ∧ _ ∧ _)
          clear hs hR hb
          go_wp2_with fail
          refine (Z.out _).mono ?_
          rintro e w1 ⟨rfl, b1⟩
          clear c0 c1
          go_wp2_with fail
          refine ⟨⟨q + 1, _, by omega, by go_num, rfl, by omega, by omega, fun i hi => ?_, below_step hbw b1⟩, by simp [intOf]; omega⟩
          by_cases e : i = q
          · subst e; omega
          · exact hh.out.1 i (by omega)
        · rw [if_neg hk] at Z
          clear hs hR hb
          go_wp2_with fail
          refine (Z.out _).mono ?_
          rintro e w1 ⟨rfl, b1⟩
          clear c0 c1
          go_wp2_with fail
          go_ret
          exact ⟨-1, rfl, .inl rfl, below_step hbw b1⟩
      · have hk' : q = len := by omega
        subst hk'
        have hh := hide hs
        clear hs hR hb
        go_wp2_with fail
        go_ret
        exact ⟨l, rfl, .inr ⟨l0, l1, by omega, hh.out⟩, hbw⟩
  · have h2 : left - (len : Int) < 0 := by omega
    clear hR hb
    go_enter Try.func80, Try.ntmps80
    go_wp2_with fail
    go_ret
    exact ⟨-1, rfl, .inl rfl, Below.refl _ _⟩
/-- The list L lies at a, in block c, and may be written. -/
def WrM (a : Option Addr) (c : Nat) (L : List Ms) (w : World) : Prop := (L ≠ [] → a = some ⟨c, 0, none⟩ ∧ c < w.heap.size) ∧ ∀ i, i < L.length →
  (w.cell? ⟨c, i * 2, none⟩ = some (.int .i64 (mAt L i).1) ∧ w.cell? ⟨c, i * 2 + 1, none⟩ = some (.string (mAt L i).2)) ∧ w.frozen? ⟨c, i * 2, none⟩ = false ∧ w.frozen? ⟨c, i * 2 + 1, none⟩ = false
theorem WrM.nil (a : Option Addr) (c : Nat) (w : World) : WrM a c [] w := ⟨fun h => absurd rfl h, fun _ hi => absurd hi (Nat.not_lt_zero _)⟩
theorem WrM.row {a : Option Addr} {c : Nat} {L : List Ms} {w : World} (h : WrM a c L w) : RowM a L w := by
  intro i hi
  have hne : L ≠ [] := fun e => by rw [e] at hi; exact absurd hi (Nat.not_lt_zero _)
  obtain ⟨h0, h1⟩ := (h.2 i hi).1
  exact ⟨c, 0, (h.1 hne).1, (h.1 hne).2, by rw [Nat.zero_add]; exact h0, by rw [Nat.zero_add]; exact h1⟩
theorem WrM.below {a : Option Addr} {c : Nat} {L : List Ms} {w w' : World} (h : WrM a c L w) (k : Below w.heap.size w w') : WrM a c L w' := by
  obtain ⟨hc, hf⟩ := bcell k
  refine ⟨fun hne => ⟨(h.1 hne).1, Nat.lt_of_lt_of_le (h.1 hne).2 k.size⟩, fun i hi => ?_⟩
  have hne : L ≠ [] := fun e => by rw [e] at hi; exact absurd hi (Nat.not_lt_zero _)
  obtain ⟨⟨h0, h1⟩, f0, f1⟩ := h.2 i hi
  have hl := (h.1 hne).2
  exact ⟨⟨(hc _ _ hl).trans h0, (hc _ _ hl).trans h1⟩, (hf _ _ hl).trans f0, (hf _ _ hl).trans f1⟩
theorem WrM.out {a : Option Addr} {c : Nat} {L : List Ms} {w : World} (h : WrM a c L w) (hne : L ≠ []) : OutMsg c L.length L.length (fun i => (mAt L i).1) (fun i => (mAt L i).2) w :=
  ⟨(h.1 hne).2, fun i hi => ⟨⟨_, _, (h.2 i hi).1.1, (h.2 i hi).1.2, fun _ => ⟨rfl, rfl⟩⟩, (h.2 i hi).2.1, (h.2 i hi).2.2⟩⟩
theorem WrM.of {c n : Nat} {f0 : Nat → Int} {f1 : Nat → ByteArray} {w : World} (h : OutMsg c n n f0 f1 w) : WrM (some ⟨c, 0, none⟩) c (listM n f0 f1) w := by
  refine ⟨fun _ => ⟨rfl, h.1⟩, fun i hi => ?_⟩
  rw [listM_len] at hi
  obtain ⟨⟨x0, x1, h0, h1, hk⟩, g0, g1⟩ := h.2 i hi
  obtain ⟨rfl, rfl⟩ := hk hi
  rw [listM_at f0 f1 hi]
  exact ⟨⟨h0, h1⟩, g0, g1⟩
theorem WrM.own {base : Nat} {v : Value} {L : List Ms} {w : World} (h : OwnM base v L w) : ∃ a cap c, v = .slice a L.length cap ∧ (L ≠ [] → base ≤ c) ∧ WrM a c L w := by
  by_cases hne : L = []
  · subst hne
    obtain ⟨a, cap, rfl, _⟩ := ownM_row h
    exact ⟨a, cap, 0, rfl, fun h => absurd rfl h, WrM.nil _ _ _⟩
  · obtain ⟨g, cap, rfl, hb, hg⟩ := ownM_shape h hne
    refine ⟨_, cap, g, rfl, fun _ => hb, fun _ => ⟨rfl, hg⟩, fun i hi => ?_⟩
    obtain ⟨hc, hf⟩ := ownM_at h hi
    exact ⟨hc, hf _, hf _⟩
/-- Nothing has turned but, where L is not empty, block c; memory may have come. -/
def OnM (c : Nat) (L : List Ms) (w w' : World) : Prop := Only (if L = [] then w.heap.size else c) w w'
theorem OnM.base {c base : Nat} {L : List Ms} {w w' : World} (h : OnM c L w w') (hb : L ≠ [] → base ≤ c) (hs : base ≤ w.heap.size) : Below base w w' := by
  unfold OnM at h
  by_cases e : L = []
  · rw [if_pos e] at h
    exact ⟨h.1, h.2.1, h.2.2.1, h.2.2.2.1, fun k hk => h.2.2.2.2 k (by omega) (by omega)⟩
  · rw [if_neg e] at h
    have := hb e
    exact ⟨h.1, h.2.1, h.2.2.1, h.2.2.2.1, fun k hk => h.2.2.2.2 k (by omega) (by omega)⟩
theorem WrM.on {a : Option Addr} {c d : Nat} {L M : List Ms} {w w' : World} (h : WrM a c L w) (k : OnM d M w w') (hn : L ≠ [] → M ≠ [] → c ≠ d) : WrM a c L w' := by
  by_cases hL : L = []
  · subst hL; exact WrM.nil _ _ _
  · have hl := (h.1 hL).2
    have hne : c ≠ (if M = [] then w.heap.size else d) := by
      by_cases e : M = []
      · rw [if_pos e]; omega
      · rw [if_neg e]; exact hn hL e
    unfold OnM at k
    refine ⟨fun _ => ⟨(h.1 hL).1, Nat.lt_of_lt_of_le hl k.2.2.2.1⟩, fun i hi => ?_⟩
    obtain ⟨⟨h0, h1⟩, f0, f1⟩ := h.2 i hi
    exact ⟨⟨(k.cell hl hne).trans h0, (k.cell hl hne).trans h1⟩, (k.frozen hl hne).trans f0, (k.frozen hl hne).trans f1⟩
/-- Marked messages. -/
def mkM (k n : Nat) : List Ms := (List.range n).map fun i => (((k + 2 * i : Nat) : Int), mt (k + 2 * i + 1))
theorem mkM_len (k n : Nat) : (mkM k n).length = n := by simp [mkM]
theorem mkM_at (k : Nat) {n i : Nat} (h : i < n) : mAt (mkM k n) i = (((k + 2 * i : Nat) : Int), mt (k + 2 * i + 1)) := by
  rw [mAt_eq (by rw [mkM_len]; exact h)]
  simp [mkM]
theorem OutMsg.set2 {c n k : Nat} {f0 : Nat → Int} {f1 : Nat → ByteArray} {w w1 : World} (h : OutMsg c n k f0 f1 w) (hk : k < n) (hb : Below (w.setCell ⟨c, k * 2, none⟩ (.int .i64 (f0 k))).heap.size (w.setCell ⟨c, k * 2, none⟩ (.int .i64 (f0 k))) w1) :
    OutMsg c n (k + 1) f0 f1 (w1.setCell ⟨c, k * 2 + 1, none⟩ (.string (f1 k))) := by
  obtain ⟨hc, hf⟩ := bcell hb
  have hlt : c < (w.setCell ⟨c, k * 2, none⟩ (.int .i64 (f0 k))).heap.size := by simpa using h.1
  refine ⟨by have := Nat.lt_of_lt_of_le hlt hb.size; simpa using this, fun i hi => ?_⟩
  obtain ⟨⟨x0, x1, h0, h1, hx⟩, g0, g1⟩ := h.2 i hi
  have c0 := hc c (i * 2) hlt
  have c1 := hc c (i * 2 + 1) hlt
  have q0 := (hf c (i * 2) hlt).trans (show _ = false by simpa [go_sem] using g0)
  have q1 := (hf c (i * 2 + 1) hlt).trans (show _ = false by simpa [go_sem] using g1)
  by_cases e : i = k
  · subst e
    rw [World.cell?_setCell_other _ _ _ _ (by simp), h1] at c1
    have c0 := c0.trans (show _ = some (Value.int .i64 (f0 i)) by simp [go_sem, h0])
    refine ⟨⟨f0 i, f1 i, ?_, ?_, fun _ => ⟨rfl, rfl⟩⟩, ?_, ?_⟩
    · rw [World.cell?_setCell_other _ _ _ _ (by simp)]; exact c0
    · simp [go_sem, c1]
    · simpa [go_sem] using q0
    · simpa [go_sem] using q1
  · rw [World.cell?_setCell_other _ _ _ _ (by simp <;> omega), h0] at c0
    rw [World.cell?_setCell_other _ _ _ _ (by simp <;> omega), h1] at c1
    refine ⟨⟨x0, x1, ?_, ?_, fun hlt => hx (by omega)⟩, ?_, ?_⟩
    · rw [World.cell?_setCell_other _ _ _ _ (by simp <;> omega)]; exact c0
    · rw [World.cell?_setCell_other _ _ _ _ (by simp <;> omega)]; exact c1
    · simpa [go_sem] using q0
    · simpa [go_sem] using q1
set_option maxRecDepth 100000 in
set_option maxHeartbeats 1600000 in
theorem w_markMsgS_full (c len cap : Nat) (f0 : Nat → Int) (f1 : Nat → ByteArray) (k0 : Nat) (w : World) (hl : len ≤ 4294967296) (h0 : 1 ≤ k0) (h1 : k0 ≤ 100000000000) (hO : OutMsg c len len f0 f1 w) :
    Calls Try.prog 29 #[.slice (some ⟨c, 0, none⟩) len cap, .int .i64 k0] w fun e w' => e = .returned (.int .i64 (k0 + 2 * (len : Int))) ∧ Only c w w' ∧ OutMsg c len len (fun i => ((k0 + 2 * i : Nat) : Int)) (fun i => mt (k0 + 2 * i + 1)) w' := by
  go_enter Try.func29, Try.ntmps29
  go_wp2_with fail
  go_loopw [1, 5] (fun kk i wr => ∃ q : Nat, q ≤ len ∧ i = .int .i64 q ∧ kk = .int .i64 ((k0 + 2 * q : Nat) : Int) ∧ Only c w wr ∧ OutMsg c len q (fun i => ((k0 + 2 * i : Nat) : Int)) (fun i => mt (k0 + 2 * i + 1)) wr) (fun _ i _ => len - (intOf i).toNat)
  case atStart => exact ⟨0, Nat.zero_le _, rfl, by simp, Only.refl _ _, hO.forget _ _⟩
  case round =>
    obtain ⟨q, hq, rfl, rfl, ho, hO'⟩ := hrel
    by_cases hlt : q < len
    · obtain ⟨⟨y0, y1, i0, i1, _⟩, g0, g1⟩ := hO'.2 q hlt
      have hlt' : (q : Int) < (len : Int) := by omega
      have MT := hide (fun w => w_markText (k0 + 2 * q + 1) w (by omega) (by omega))
      have hc := hO'.1
      rw [show ((k0 + 2 * q + 1 : Nat) : Int) = ((k0 + 2 * q : Nat) : Int) + 1 by omega] at MT
      have hb2 : ((k0 + 2 * q : Nat) : Int) ≤ 1000000000000 := by omega
      have hb3 : (0 : Int) ≤ ((k0 + 2 * q : Nat) : Int) := by omega
      have hkk := hide (show ((k0 + 2 * (q + 1) : Nat) : Int) = ((k0 + 2 * q : Nat) : Int) + 1 + 1 by omega)
      have hset := hide (fun w1 hb => hO'.set2 (w1 := w1) hlt hb)
      clear hO hO'
      generalize hKK : ((k0 + 2 * q : Nat) : Int) = K at *
      clear hKK
      go_wp2_with fail
      refine (MT.out _).mono ?_
      rintro e w1 ⟨rfl, b1⟩
      obtain ⟨bc, bf⟩ := bcell b1
      have i0 := (bc c (q * 2) (by simpa using hc)).trans (show _ = some (Value.int .i64 K) by simp [go_sem, i0])
      have i1 := (bc c (q * 2 + 1) (by simpa using hc)).trans (show _ = some (Value.string y1) by rw [World.cell?_setCell_other _ _ _ _ (by simp)]; exact i1)
      have g1 := (bf c (q * 2 + 1) (by simpa using hc)).trans (show _ = false by simpa [go_sem] using g1)
      clear bc bf
      go_wp2_with fail
      refine ⟨⟨q + 1, by omega, by go_num, by rw [hkk.out], ?_, hset.out w1 b1⟩, by simp [intOf]; omega⟩
      have ho1 := ho.setCell (q * 2) (.int .i64 K)
      exact (ho1.trans (Only.of_below b1)).setCell _ _
    · have hk' : q = len := by omega
      subst hk'
      go_wp2_with fail
      go_ret
      exact ⟨ret_int (by omega), ho, hO'⟩
theorem mkM_out {c n k0 : Nat} {w : World} (h : OutMsg c n n (fun i => ((k0 + 2 * i : Nat) : Int)) (fun i => mt (k0 + 2 * i + 1)) w) : WrM (some ⟨c, 0, none⟩) c (mkM k0 n) w := WrM.of h
set_option maxRecDepth 100000 in
set_option maxHeartbeats 800000 in
theorem w_markMsgS_nil (a : Option Addr) (cap : Nat) (k0 : Nat) (w : World) :
    Calls Try.prog 29 #[.slice a 0 cap, .int .i64 k0] w fun e w' => e = .returned (.int .i64 k0) ∧ w' = w := by
  go_enter Try.func29, Try.ntmps29
  go_wp2_with fail
  go_loop [1, 5] (fun kk i => kk = .int .i64 k0 ∧ i = .int .i64 0) (fun _ i => 0 - (intOf i).toNat)
  case atStart => exact ⟨rfl, rfl⟩
  case round =>
    obtain ⟨rfl, rfl⟩ := hrel
    go_wp2_with fail
    go_ret
    exact ⟨rfl, rfl⟩
theorem w_markM (a : Option Addr) (c cap : Nat) (L : List Ms) (k0 : Nat) (w : World) (hl : L.length ≤ 4294967296) (h0 : 1 ≤ k0) (h1 : k0 ≤ 100000000000) (hL : WrM a c L w) :
    Calls Try.prog 29 #[.slice a L.length cap, .int .i64 k0] w fun e w' => e = .returned (.int .i64 (k0 + 2 * (L.length : Int))) ∧ OnM c L w w' ∧ WrM a c (mkM k0 L.length) w' := by
  by_cases hne : L = []
  · subst hne
    refine (w_markMsgS_nil a cap k0 w).mono ?_
    rintro e w' ⟨rfl, rfl⟩
    exact ⟨by simp, Only.refl _ _, WrM.nil _ _ _⟩
  · obtain ⟨rfl, _⟩ := hL.1 hne
    refine (w_markMsgS_full c L.length cap _ _ k0 w hl h0 h1 (hL.out hne)).mono ?_
    rintro e w' ⟨rfl, ho, hO⟩
    exact ⟨rfl, by unfold OnM; rw [if_neg hne]; exact ho, mkM_out hO⟩
set_option maxRecDepth 100000 in
set_option maxHeartbeats 1600000 in
theorem w_heldM (a : Option Addr) (n cap : Nat) (k0 : Nat) (w : World) (hl : n ≤ 4294967296) (h0 : 1 ≤ k0) (h1 : k0 ≤ 100000000000) (hR : RowM a (mkM k0 n) w) :
    Calls Try.prog 30 #[.slice a n cap, .int .i64 k0] w fun e w' => e = .returned (.int .i64 (k0 + 2 * (n : Int))) ∧ Below w.heap.size w w' := by
  go_enter Try.func30, Try.ntmps30
  go_wp2_with fail
  go_loopw [1, 5] (fun kk i wr => ∃ q : Nat, q ≤ n ∧ i = .int .i64 q ∧ kk = .int .i64 ((k0 + 2 * q : Nat) : Int) ∧ Below w.heap.size w wr) (fun _ i _ => n - (intOf i).toNat)
  case atStart => exact ⟨0, Nat.zero_le _, rfl, by simp, Below.refl _ _⟩
  case round =>
    obtain ⟨q, hq, rfl, rfl, hb⟩ := hrel
    by_cases hlt : q < n
    · obtain ⟨b, off, rfl, hbw, c0, c1⟩ := hR q (by rw [mkM_len]; exact hlt)
      rw [mkM_at k0 hlt] at c0 c1
      have i0 := (hb.cell (p := ⟨b, off + q * 2, none⟩) hbw).trans c0
      have i1 := cell_regrown ((hb.cell (p := ⟨b, off + q * 2 + 1, none⟩) hbw).trans c1)
      have hlt' : (q : Int) < (n : Int) := by omega
      have MT := hide (fun w => w_markText (k0 + 2 * q + 1) w (by omega) (by omega))
      rw [show ((k0 + 2 * q + 1 : Nat) : Int) = ((k0 + 2 * q : Nat) : Int) + 1 by omega] at MT
      have hb2 : ((k0 + 2 * q : Nat) : Int) ≤ 1000000000000 := by omega
      have hb3 : (0 : Int) ≤ ((k0 + 2 * q : Nat) : Int) := by omega
      have hkk := hide (show ((k0 + 2 * (q + 1) : Nat) : Int) = ((k0 + 2 * q : Nat) : Int) + 1 + 1 by omega)
      clear hR c0 c1
      dsimp only at i0 i1
      generalize hX : mt (k0 + 2 * q + 1) = X at *
      clear hX
      generalize hKK : ((k0 + 2 * q : Nat) : Int) = K at *
      clear hKK
      go_wp2_with fail
      refine wp_region_quiet_below (by kernel_rfl) (by kernel_rfl) ?_
      repeat (first | go_big_quiet_step (((go_at_call 79; exact Calls.regrown_of (MT.out _)))) | quiet_step (((go_at_call 79; exact Calls.regrown_of (MT.out _)))))
      refine wpQuiet_nil ?_
      intro _ hw'
      obtain ⟨⟨dq, osq⟩, hw''⟩ := hw'
      subst hw''
      have hqq := below_regrown wr dq osq
      generalize Go.Sort.grow (redrawn wr dq) osq = wq at hqq ⊢
      have hbq := hb.trans (hqq.mono hb.size)
      clear hqq i0 i1
      go_wp2_with fail
      exact ⟨⟨q + 1, by omega, by go_num, by rw [hkk.out], hbq⟩, by simp [intOf]; omega⟩
    · have hk' : q = n := by omega
      subst hk'
      clear hR
      go_wp2_with fail
      go_ret
      exact ⟨ret_int (by omega), hb⟩
theorem w_eqM (a a' : Option Addr) (cap cap' : Nat) (L : List Ms) (w : World) (hl : L.length ≤ 1048576) (hR : RowM a L w) (hR' : RowM a' L w) :
    Calls Try.prog 28 #[.slice a L.length cap, .slice a' L.length cap'] w fun e w' => e = .returned (.bool true) ∧ Below w.heap.size w w' :=
  w_eqMsgS a a' L.length cap cap' _ _ w hl hR.row hR'.row
end Go.Proofs.Ytoeephmdklmpfaa
