/- What the laws do with readers: handed over, compared, marked, held. -/
import Derived.Test.YtoeephmdklmpfaaLaw5
import Derived.Test.YtoeephmdklmpfaaMut4
namespace Go.Proofs.Ytoeephmdklmpfaa
open Go.RowKit

theorem OnM.pre {c : Nat} {L : List Ms} {w w1 w' : World} (b : Below w.heap.size w w1) (h : OnM c L w1 w') : OnM c L w w' := by
  unfold OnM at h ⊢
  by_cases e : L = []
  · rw [if_pos e] at h ⊢
    have hb : Below w1.heap.size w1 w' := ⟨h.1, h.2.1, h.2.2.1, h.2.2.2.1, fun k hk => h.2.2.2.2 k hk (by omega)⟩
    exact Only.of_below (b.trans (hb.mono b.size))
  · rw [if_neg e] at h ⊢
    exact (Only.of_below b).trans h
theorem Mut.on {w w' : World} {b c : Nat} {vs : List Value} {L : List Ms} (h : Mut w b vs) (k : OnM c L w w') (hn : L ≠ [] → b ≠ c) : Mut w' b vs := by
  unfold OnM at k
  by_cases e : L = []
  · rw [if_pos e] at k
    exact h.only k (by have := h.1; omega)
  · rw [if_neg e] at k
    exact h.only k (hn e)
theorem OutMsg.other {c d n k : Nat} {f0 : Nat → Int} {f1 : Nat → ByteArray} {w : World} (h : OutMsg c n k f0 f1 w) (hn : c ≠ d) (o : Nat) (v : Value) : OutMsg c n k f0 f1 (w.setCell ⟨d, o, none⟩ v) := by
  have ho : Only d w (w.setCell ⟨d, o, none⟩ v) := (Only.refl d w).setCell o v
  have hc := fun o => ho.cell (o := o) h.1 hn
  have hf := fun o => ho.frozen (o := o) h.1 hn
  refine ⟨Nat.lt_of_lt_of_le h.1 ho.2.2.2.1, fun i hi => ?_⟩
  obtain ⟨⟨x0, x1, h0, h1, hk⟩, g0, g1⟩ := h.2 i hi
  exact ⟨⟨x0, x1, (hc _).trans h0, (hc _).trans h1, hk⟩, (hf _).trans g0, (hf _).trans g1⟩
set_option maxRecDepth 100000 in
set_option maxHeartbeats 1600000 in
theorem w_toReader (X : ByteArray) (a : Option Addr) (len cap : Nat) (f0 : Nat → Int) (f1 : Nat → ByteArray) (B : Int) (w : World) (hl : len ≤ 1048576) (hR : RowMsg a len f0 f1 w) :
    Calls Try.prog 38 #[.agg #[.string X, .slice a len cap, .int .i64 B]] w fun e w' => ∃ c, e = .returned (.agg #[.string X, .slice (some ⟨c, 0, none⟩) len len, .int .i64 B]) ∧ w.heap.size ≤ c ∧ OutMsg c len len f0 f1 w' ∧ Below w.heap.size w w' := by
  have T := hide (fun w hR => w_toMsgS a len cap f0 f1 w hl hR)
  have M0 := ((Mut.new w #[.string X, .slice a len cap, .int .i64 B] 55).alloc (.cells #[.string ⟨#[]⟩, .slice none 0 0, .int .i64 0] 48)).alloc (.cells #[.string X, .slice none 0 0, .int .i64 0] 48)
  have M1 := (Mut.new (w.alloc (.cells #[.string X, .slice a len cap, .int .i64 B] 55)) #[.string ⟨#[]⟩, .slice none 0 0, .int .i64 0] 48).alloc (.cells #[.string X, .slice none 0 0, .int .i64 0] 48)
  have M2 := Mut.new ((w.alloc (.cells #[.string X, .slice a len cap, .int .i64 B] 55)).alloc (.cells #[.string ⟨#[]⟩, .slice none 0 0, .int .i64 0] 48)) #[.string X, .slice none 0 0, .int .i64 0] 48
  clear hl
  go_enter Try.func38, Try.ntmps38
  go_wp2_with fail
  refine (T.out _ (hR.below (below_box3 (Below.refl _ _)))).mono ?_
  rintro e w1 ⟨rfl, hb1, o1⟩
  have M0 := M0.below hb1
  have M1 := M1.below hb1
  have M2 := M2.below hb1
  have d1 := below_box3 hb1
  clear hb1
  simp only [World.size_alloc] at o1 M1 M2 ⊢
  have u2 := M0.2.1 2 _ rfl
  have v0 := M2.2.1 0 _ rfl
  have v1 := M2.2.1 1 _ rfl
  have v2 := M2.2.1 2 _ rfl
  have x1 := M2.2.2 1 (by simp)
  have x2 := M2.2.2 2 (by simp)
  have t0 := M1.2.1 0 _ rfl
  have t1 := M1.2.1 1 _ rfl
  have t2 := M1.2.1 2 _ rfl
  have r0 := M1.2.2 0 (by simp)
  have r1 := M1.2.2 1 (by simp)
  have r2 := M1.2.2 2 (by simp)
  clear M0 M1 M2
  go_wp2_with fail
  have h3 : Only (w.heap.size + 1 + 1) w1 ((w1.setCell ⟨w.heap.size + 1 + 1, 1, none⟩ (.slice (some ⟨w.heap.size + 1 + 1 + 1, 0, none⟩) len len)).setCell ⟨w.heap.size + 1 + 1, 2, none⟩ (.int .i64 B)) := ((Only.refl _ _).setCell _ _).setCell _ _
  have O2 := ((((o1.other (d := w.heap.size + 1 + 1) (by omega) 1 (.slice (some ⟨w.heap.size + 1 + 1 + 1, 0, none⟩) len len)).other (d := w.heap.size + 1 + 1) (by omega) 2 (.int .i64 B)).other (d := w.heap.size + 1) (by omega) 0 (.string X)).other (d := w.heap.size + 1) (by omega) 1 (.slice (some ⟨w.heap.size + 1 + 1 + 1, 0, none⟩) len len)).other (d := w.heap.size + 1) (by omega) 2 (.int .i64 B)
  have D2 := ((((d1.setCell (p := ⟨w.heap.size + 1 + 1, 1, none⟩) (by simp; omega) (.slice (some ⟨w.heap.size + 1 + 1 + 1, 0, none⟩) len len)).setCell (p := ⟨w.heap.size + 1 + 1, 2, none⟩) (by simp; omega) (.int .i64 B)).setCell (p := ⟨w.heap.size + 1, 0, none⟩) (by simp) (.string X)).setCell (p := ⟨w.heap.size + 1, 1, none⟩) (by simp) (.slice (some ⟨w.heap.size + 1 + 1 + 1, 0, none⟩) len len)).setCell (p := ⟨w.heap.size + 1, 2, none⟩) (by simp) (.int .i64 B)
  exact bodyPost_ret (v := .agg #[.string X, (.slice (some ⟨w.heap.size + 1 + 1 + 1, 0, none⟩) len len), .int .i64 B]) (by simp [results, Try.results38, go_sem, *]) rfl ⟨w.heap.size + 1 + 1 + 1, rfl, by omega, O2, D2⟩
set_option maxRecDepth 100000 in
set_option maxHeartbeats 1600000 in
theorem w_eqReader (X : ByteArray) (B : Int) (a a' : Option Addr) (cap cap' : Nat) (L : List Ms) (w : World) (hl : L.length ≤ 1048576) (hR : RowM a L w) (hR' : RowM a' L w) :
    Calls Try.prog 33 #[.agg #[.string X, .slice a L.length cap, .int .i64 B], .agg #[.string X, .slice a' L.length cap', .int .i64 B]] w fun e w' => e = .returned (.bool true) ∧ Below w.heap.size w w' := by
  have E := hide (fun w hR hR' => w_eqM a a' cap cap' L w hl hR hR')
  have k0 : (B != B) = false := by simp
  have M0 := (Mut.new w #[.string X, .slice a L.length cap, .int .i64 B] 48).alloc (.cells #[.string X, .slice a' L.length cap', .int .i64 B] 48)
  have M1 := Mut.new (w.alloc (.cells #[.string X, .slice a L.length cap, .int .i64 B] 48)) #[.string X, .slice a' L.length cap', .int .i64 B] 48
  clear hl
  go_enter Try.func33, Try.ntmps33
  go_wp2_with fail
  refine (E.out _ (hR.below (below_box2 (Below.refl _ _))) (hR'.below (below_box2 (Below.refl _ _)))).mono ?_
  rintro e w1 ⟨rfl, b1⟩
  have u2 := (M0.below b1).2.1 2 _ rfl
  have v2 := (M1.below b1).2.1 2 _ rfl
  simp only [World.size_alloc] at v2
  have d1 := below_box2 b1
  clear b1 M0 M1
  go_wp2_with fail
  go_ret
  exact ⟨rfl, d1⟩
set_option maxRecDepth 100000 in
set_option maxHeartbeats 1600000 in
theorem w_markReader (X : ByteArray) (B : Int) (a : Option Addr) (c cap : Nat) (L : List Ms) (w : World) (hl : L.length ≤ 1048576) (hL : WrM a c L w) :
    Calls Try.prog 34 #[.agg #[.string X, .slice a L.length cap, .int .i64 B], .int .i64 1] w fun e w' => e = .returned (.int .i64 (1 + 2 * (L.length : Int))) ∧ OnM c L w w' ∧ WrM a c (mkM 1 L.length) w' := by
  have M := hide (show ∀ w, WrM a c L w → Calls Try.prog 29 #[.slice a L.length cap, .int .i64 1] w fun e w' => e = .returned (.int .i64 (1 + 2 * (L.length : Int))) ∧ OnM c L w w' ∧ WrM a c (mkM 1 L.length) w' from fun w h => w_markM a c cap L 1 w (by omega) (by omega) (by omega) h)
  clear hl
  go_enter Try.func34, Try.ntmps34
  go_wp2_with fail
  refine (M.out _ (hL.below (below_box (Below.refl _ _)))).mono ?_
  rintro e w1 ⟨rfl, yy, Om⟩
  go_wp2_with fail
  go_ret
  exact ⟨rfl, OnM.pre (below_box (Below.refl _ _)) yy, Om⟩
set_option maxRecDepth 100000 in
set_option maxHeartbeats 1600000 in
theorem w_heldReader (X : ByteArray) (B : Int) (a : Option Addr) (cap n : Nat) (w : World) (hl : n ≤ 1048576) (hR : RowM a (mkM 1 n) w) :
    Calls Try.prog 35 #[.agg #[.string X, .slice a n cap, .int .i64 B], .int .i64 1] w fun e w' => e = .returned (.int .i64 (1 + 2 * (n : Int))) ∧ Below w.heap.size w w' := by
  have HD := hide (show ∀ w, RowM a (mkM 1 n) w → Calls Try.prog 30 #[.slice a n cap, .int .i64 1] w fun e w' => e = .returned (.int .i64 (1 + 2 * (n : Int))) ∧ Below w.heap.size w w' from fun w h => w_heldM a n cap 1 w (by omega) (by omega) (by omega) h)
  have k2 : ¬ (1 + 2 * (n : Int) < 0) := by omega
  clear hl
  go_enter Try.func35, Try.ntmps35
  go_wp2_with fail
  refine (HD.out _ (hR.below (below_box (Below.refl _ _)))).mono ?_
  rintro e w1 ⟨rfl, b1⟩
  go_wp2_with fail
  go_ret
  exact ⟨rfl, below_box b1⟩
set_option maxRecDepth 100000 in
set_option maxHeartbeats 1600000 in
theorem w_szReader (X : ByteArray) (a : Option Addr) (len cap : Nat) (f0 : Nat → Int) (f1 : Nat → ByteArray) (B : Int) (w : World) (hX : X.size ≤ maxLen) (hl : len ≤ maxLen) (hR : RowMsg a len f0 f1 w) (hb : ∀ i, i < len → (f1 i).size ≤ maxLen) :
    Calls Try.prog 36 #[.agg #[.string X, .slice a len cap, .int .i64 B], .int .i64 1048576] w fun e w' => ∃ r : Int, e = .returned (.int .i64 r) ∧ (r = -1 ∨ (0 ≤ r ∧ r ≤ 1048576 ∧ X.size ≤ 1048576 ∧ len ≤ 1048576 ∧ ∀ i, i < len → (f1 i).size ≤ 1048576)) ∧ Below w.heap.size w w' := by
  unfold maxLen at hX
  by_cases h : X.size ≤ 1048576
  · have h1 : ¬ (1048576 - (X.size : Int) < 0) := by omega
    have Z := hide (fun w hR => w_szMsgS a len cap f0 f1 (1048576 - (X.size : Int)) w hl (by omega) (by omega) hR hb)
    clear hl hb
    go_enter Try.func36, Try.ntmps36
    go_wp2_with fail
    refine (Z.out _ (hR.below (below_box (Below.refl _ _)))).mono ?_
    rintro e w1 ⟨r, rfl, hr, b1⟩
    have d1 := below_box b1
    clear b1 Z hR
    rcases hr with rfl | ⟨r0, r1, r2, r3⟩
    · go_wp2_with fail
      go_ret
      exact ⟨-1, rfl, .inl rfl, d1⟩
    · have hn : ¬ (r < 0) := by omega
      have h3 := hide r3
      clear r3
      go_wp2_with fail
      go_ret
      exact ⟨r, rfl, .inr ⟨r0, r1, h, r2, h3.out⟩, d1⟩
  · have h1 : 1048576 - (X.size : Int) < 0 := by omega
    clear hl hb hR
    go_enter Try.func36, Try.ntmps36
    go_wp2_with fail
    go_ret
    exact ⟨-1, rfl, .inl rfl, below_box (Below.refl _ _)⟩
end Go.Proofs.Ytoeephmdklmpfaa
