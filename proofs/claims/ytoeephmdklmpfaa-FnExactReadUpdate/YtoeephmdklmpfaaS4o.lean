/- Reading lists of prefixes: what the specification's prefixes answers from any state of the reader. -/
import Derived.Test.YtoeephmdklmpfaaS4n
namespace Go.Proofs.Ytoeephmdklmpfaa
open Go.RowKit

/-- What is left behind k prefixes. -/
def prR (D : List Int) : Nat → List Int
  | 0 => D
  | k + 1 => (prR D k).drop (rdN (prR D k))
/-- The first fault among k prefixes. -/
def prC0 (D : List Int) : Nat → Int
  | 0 => 0
  | k + 1 => if prC0 D k ≠ 0 then prC0 D k else rdCode (prR D k)
def prL (D : List Int) (k : Nat) : List Pf := (List.range k).map fun i => (rdA (prR D i), rdL (prR D i))
def prC (n : Nat) (D : List Int) (c1 : Int) : Int := if c1 ≠ 0 then c1 else prC0 D n
theorem prC_bad {n : Nat} {D : List Int} {c1 : Int} (h : c1 ≠ 0) : prC n D c1 = c1 := if_pos h
theorem prC_ok {n : Nat} {D : List Int} : prC n D 0 = prC0 D n := if_neg (by simp)
theorem prC0_stay {D : List Int} {k n : Nat} (h : prC0 D k ≠ 0) (hk : k ≤ n) : prC0 D n = prC0 D k := by
  induction n with
  | zero => rw [Nat.le_zero.1 hk]
  | succ n ih =>
    by_cases e : k = n + 1
    · rw [e]
    · have e1 := ih (by omega)
      show (if prC0 D n ≠ 0 then prC0 D n else rdCode (prR D n)) = _
      rw [if_pos (by rw [e1]; exact h), e1]
theorem prC0_next {D : List Int} {k : Nat} (h : prC0 D k = 0) : prC0 D (k + 1) = rdCode (prR D k) := by
  show (if prC0 D k ≠ 0 then prC0 D k else rdCode (prR D k)) = _
  rw [if_neg (by simpa using h)]
theorem prL_next (D : List Int) (k : Nat) : prL D (k + 1) = prL D k ++ [(rdA (prR D k), rdL (prR D k))] := by
  unfold prL
  rw [List.range_succ, List.map_append]
  rfl
/-- How far the prefixes have been read. -/
def PsSt (n : Nat) (D : List Int) (c1 : Int) (k : Nat) (cc : Int) (LL : List Int) (Y : List Pf) : Prop :=
  (cc = 0 → c1 = 0 ∧ prC0 D k = 0 ∧ LL = prR D k ∧ Y = prL D k) ∧ (cc ≠ 0 → cc = prC n D c1)
theorem ownP_only {w w' : World} {base c : Nat} {v : Value} {L : List Pf} (h : OwnP base v L w) (o : Only c w w') (hn : v.ownBlock ≠ some c) : OwnP base v L w' :=
  World.ownsRow.kept h (row := some c) ⟨o.1, o.2.1, o.2.2.1, o.2.2.2.1, fun i hi hne => o.2.2.2.2 i hi (fun e => hne (by rw [e]))⟩ (.inr hn)
/-- What prefixes answers. -/
def PsAns (b : Nat) (s : ByteArray) (n : Nat) (D : List Int) (c1 : Int) (w : World) (e : Ending) (w' : World) : Prop :=
  ∃ v Y, e = .returned v ∧ OwnP w.heap.size v Y w' ∧ Only b w w' ∧ Rd w' b s (prR D n) (prC n D c1) ∧ (prC n D c1 = 0 → Y = prL D n)
set_option maxRecDepth 100000 in
set_option maxHeartbeats 1600000 in
theorem s_prefs (b : Nat) (s : ByteArray) (L : List Int) (c : Int) (w : World) (hs : s.size ≤ 1000) (hn0 : 0 ≤ vN 1 L c) (hn1 : vN 1 L c < 256) (R : Rd w b s L c) :
    Calls Try.prog 63 #[.pointer (some ⟨b, 0, none⟩)] w (PsAns b s (vN 1 L c).toNat (stL 1 L c) (stC 1 L c) w) := by
  have s1 := hide (fun w R => s_num b s L c 1 w hs (by omega) R)
  have hlt := R.lt
  obtain ⟨n, hn⟩ := Int.eq_ofNat_of_zero_le hn0
  rw [hn] at s1 ⊢
  rw [Int.toNat_natCast]
  have hn255 : n < 256 := by omega
  clear hn hn0 hn1
  generalize stL 1 L c = D at *
  generalize stC 1 L c = c1 at *
  have s2 := hide (fun LL w R => s_pre b s LL w hs R)
  go_enter Try.func63, Try.ntmps63
  go_wp2_with fail
  refine (s1.out _ R).mono ?_
  rintro e w1 ⟨rfl, R1, o1⟩
  clear s1 R
  go_wp2_with fail
  go_loopw [3, 4] (fun t x wr => ∃ (k : Nat) (cc : Int) (Y : List Pf) (LL : List Int), k ≤ n ∧ x = .int .i64 ((n : Int) - k) ∧ OwnP w.heap.size t Y wr ∧ Y.length = k ∧ Only b w wr ∧ Rd wr b s LL cc ∧ PsSt n D c1 k cc LL Y) (fun _ x _ => (intOf x).toNat)
  case atStart =>
    refine ⟨0, c1, [], D, Nat.zero_le _, by simp, ownP_nil _ _, rfl, o1, R1, fun h => ⟨h, rfl, rfl, rfl⟩, fun h => (prC_bad h).symm⟩
  case round =>
    clear R1 o1
    obtain ⟨k, cc, Y, LL, hk, rfl, hown, hYl, ho, hR, hok, hbad⟩ := hrel
    obtain ⟨pp, hMM⟩ := hR.mut
    have q2 := hMM.2.1 2 _ rfl
    have hokh := hide hok
    have hbadh := hide hbad
    clear hok hbad
    by_cases hcc : cc = 0
    · subst hcc
      obtain ⟨g1, g2, g3, g4⟩ := hokh.out rfl
      subst g1
      have g2h := hide g2
      have g3h := hide g3
      have g4h := hide g4
      clear g2 g3 g4
      by_cases hlt2 : k < n
      · have hgt : (n : Int) - k > 0 := by omega
        have hYh := hide hYl
        clear hYl hokh hbadh
        go_wp2_with fail
        refine (s2.out _ _ hR).mono ?_
        rintro e w3 ⟨qa, ql, L3, rfl, R3, o3, hres⟩
        have hresh := hide hres
        have hown3 := ownP_only hown o3 (by
          intro e
          have := (World.ownsRow.lt hown b e).1
          omega)
        have ho3 := ho.trans o3
        clear hMM q2 o3 hown hres
        have hownA := ownP_below hown3 (below_box (Below.refl (w3.alloc (.cells #[.int .i64 qa, .int .i64 ql] 122)).heap.size (w3.alloc (.cells #[.int .i64 qa, .int .i64 ql] 122))))
        have hoA : Only b w (w3.alloc (.cells #[.int .i64 qa, .int .i64 ql] 122)) := ho3.alloc _
        have hbs : w.heap.size ≤ (w3.alloc (.cells #[.int .i64 qa, .int .i64 ql] 122)).heap.size := hoA.2.2.2.1
        have hLL : Hid (Y.length + [(qa, ql)].length ≤ 8589934593) := by show _ ≤ _; rw [hYh.out]; simp; omega
        have RA := R3.below (below_box (Below.refl (w3.alloc (.cells #[.int .i64 qa, .int .i64 ql] 122)).heap.size (w3.alloc (.cells #[.int .i64 qa, .int .i64 ql] 122))))
        clear hown3 ho3 R3
        go_wp2_with (first | (at_builtin; refine wpList_appP rfl _ _ rfl w.heap.size _ Y rfl hownA (some ⟨w3.heap.size, 0, none⟩) [(qa, ql)] 1 rfl ⟨RowP.one (by simp) (by simp) (by simp), .inr ⟨_, _, rfl⟩⟩ hLL.out hbs ?_))
        intro v4 w4 own4 b4 _
        have ho4 := hoA.thenBelowN b4 (Nat.le_refl _)
        have R4 := RA.base (by omega) b4
        go_wp2_with fail
        refine ⟨⟨k + 1, rdCode LL, Y ++ [(qa, ql)], L3, by omega, by congr 1; omega, own4, by rw [List.length_append, hYh.out]; rfl, ho4, R4, (show PsSt n D 0 (k + 1) (rdCode LL) L3 (Y ++ [(qa, ql)]) from ⟨fun h => ?_, fun h => ?_⟩)⟩, by simp [intOf]; omega⟩
        · obtain ⟨e1, e2, e3⟩ := hresh.out h
          refine ⟨rfl, ?_, ?_, ?_⟩
          · rw [prC0_next g2h.out, ← g3h.out]; exact h
          · show L3 = (prR D k).drop (rdN (prR D k))
            rw [← g3h.out, e3]
          · rw [prL_next, ← g4h.out, ← g3h.out, e1, e2]
        · have e1 := prC0_next g2h.out
          rw [← g3h.out] at e1
          rw [prC_ok, prC0_stay (k := k + 1) (by rw [e1]; exact h) (by omega), e1]
      · have hk' : k = n := by omega
        subst hk'
        have hgt : ¬ ((k : Int) - k > 0) := by omega
        go_wp2_with fail
        refine bodyPost_ret (by simp [results, Try.results63, go_sem]) rfl (show PsAns b s _ D _ w _ _ from ⟨_, Y, rfl, hown, ho, ?_, fun _ => g4h.out⟩)
        rw [prC_ok, g2h.out, ← g3h.out]
        exact hR
    · have hb := hbadh.out hcc
      have hcb : (cc == 0) = false := by simpa using hcc
      have hcc2 := hide hcc
      have hbh := hide hb
      clear hcc hb
      by_cases hlt2 : k < n
      · have hgt : (n : Int) - k > 0 := by omega
        go_wp2_with fail
        refine bodyPost_ret (by simp [results, Try.results63, go_sem]) rfl (show PsAns b s _ D _ w _ _ from ⟨_, Y, rfl, hown, ho, ?_, fun h => ?_⟩)
        · rw [← hbh.out]
          exact ⟨fun h => absurd h hcc2.out, hR.2⟩
        · rw [← hbh.out] at h
          exact absurd h hcc2.out
      · have hk' : k = n := by omega
        subst hk'
        have hgt : ¬ ((k : Int) - k > 0) := by omega
        go_wp2_with fail
        refine bodyPost_ret (by simp [results, Try.results63, go_sem]) rfl (show PsAns b s _ D _ w _ _ from ⟨_, Y, rfl, hown, ho, ?_, fun h => ?_⟩)
        · rw [← hbh.out]
          exact ⟨fun h => absurd h hcc2.out, hR.2⟩
        · rw [← hbh.out] at h
          exact absurd h hcc2.out
end Go.Proofs.Ytoeephmdklmpfaa
