/- Reading lists: what the specification's number, prefix, numbers and prefixes answer from any state of the reader. -/
import Derived.Test.YtoeephmdklmpfaaS4t
import Derived.Test.YtoeephmdklmpfaaFlatAttrs2
import Derived.Test.YtoeephmdklmpfaaS4q
import Derived.Test.YtoeephmdklmpfaaMem3
namespace Go.Proofs.Ytoeephmdklmpfaa
open Go.RowKit

def stL (m : Nat) (L : List Int) (c : Int) : List Int := if c = 0 ∧ m ≤ L.length then L.drop m else L
def stC (m : Nat) (L : List Int) (c : Int) : Int := if c ≠ 0 then c else if m ≤ L.length then 0 else 1
def vN (m : Nat) (L : List Int) (c : Int) : Int := if c = 0 ∧ m ≤ L.length then val (L.take m) else 0
/-- The reader in block b: L is left of s, or there is a fault. -/
def Rd (w : World) (b : Nat) (s : ByteArray) (L : List Int) (c : Int) : Prop :=
  (c = 0 → ∃ p : Nat, p ≤ s.size ∧ (sbs s).drop p = L ∧ Mut w b [.string s, .int .i64 p, .int .i64 0]) ∧ (c ≠ 0 → ∃ p : Int, Mut w b [.string s, .int .i64 p, .int .i64 c])
theorem Rd.mut {w : World} {b : Nat} {s : ByteArray} {L : List Int} {c : Int} (h : Rd w b s L c) : ∃ p : Int, Mut w b [.string s, .int .i64 p, .int .i64 c] := by
  by_cases hc : c = 0
  · obtain ⟨p, _, _, hM⟩ := h.1 hc
    exact ⟨p, by rw [hc]; exact hM⟩
  · exact h.2 hc
theorem Rd.lt {w : World} {b : Nat} {s : ByteArray} {L : List Int} {c : Int} (h : Rd w b s L c) : b < w.heap.size := by
  obtain ⟨p, hM⟩ := h.mut
  exact hM.1
theorem Rd.below {w w' : World} {b : Nat} {s : ByteArray} {L : List Int} {c : Int} (h : Rd w b s L c) (k : Below w.heap.size w w') : Rd w' b s L c := by
  refine ⟨fun hc => ?_, fun hc => ?_⟩
  · obtain ⟨p, h1, h2, h3⟩ := h.1 hc
    exact ⟨p, h1, h2, h3.below k⟩
  · obtain ⟨p, h3⟩ := h.2 hc
    exact ⟨p, h3.below k⟩
theorem Rd.base {w w' : World} {b base : Nat} {s : ByteArray} {L : List Int} {c : Int} (h : Rd w b s L c) (hb : b < base) (k : Below base w w') : Rd w' b s L c := by
  refine ⟨fun hc => ?_, fun hc => ?_⟩
  · obtain ⟨p, h1, h2, h3⟩ := h.1 hc
    exact ⟨p, h1, h2, h3.base hb k⟩
  · obtain ⟨p, h3⟩ := h.2 hc
    exact ⟨p, h3.base hb k⟩
theorem Only.thenBelowN {b g : Nat} {w w1 w2 : World} (h : Only b w w1) (k : Below g w1 w2) (hg : w.heap.size ≤ g) : Only b w w2 :=
  ⟨k.os.trans h.1, k.tape.trans h.2.1, k.output.trans h.2.2.1, Nat.le_trans h.2.2.2.1 k.size, fun i hi hne => (k.block i (by omega)).trans (h.2.2.2.2 i hi hne)⟩
theorem rd_len {s : ByteArray} {p : Nat} {L : List Int} (h : (sbs s).drop p = L) (hp : p ≤ s.size) : s.size = p + L.length := by
  have := congrArg List.length h
  rw [List.length_drop, sbs_len] at this
  omega
theorem s_num (b : Nat) (s : ByteArray) (L : List Int) (c : Int) (m : Nat) (w : World) (hs : s.size ≤ 1000) (hm : m ≤ 4) (R : Rd w b s L c) :
    Calls Try.prog 64 #[.pointer (some ⟨b, 0, none⟩), .int .i64 m] w fun e w' => e = .returned (.int .i64 (vN m L c)) ∧ Rd w' b s (stL m L c) (stC m L c) ∧ Only b w w' := by
  by_cases hc : c = 0
  · subst hc
    obtain ⟨p, hp, hL, M⟩ := R.1 rfl
    have hlen := rd_len hL hp
    by_cases hml : m ≤ L.length
    · have e1 : vN m L 0 = val (L.take m) := if_pos ⟨rfl, hml⟩
      have e2 : stL m L 0 = L.drop m := if_pos ⟨rfl, hml⟩
      have e3 : stC m L 0 = 0 := by unfold stC; rw [if_neg (by simp), if_pos hml]
      rw [e1, e2, e3]
      refine (s_number_yes b s p m w hs hm (by omega) M).mono ?_
      rintro e w' ⟨rfl, M', o⟩
      refine ⟨by rw [hL], ⟨fun _ => ⟨p + m, by omega, ?_, M'⟩, fun h => absurd rfl h⟩, o⟩
      rw [← List.drop_drop, hL]
    · have e1 : vN m L 0 = 0 := if_neg (fun h => hml h.2)
      have e2 : stL m L 0 = L := if_neg (fun h => hml h.2)
      have e3 : stC m L 0 = 1 := by unfold stC; rw [if_neg (by simp), if_neg hml]
      rw [e1, e2, e3]
      refine (s_number_short b s p m w hs hm hp (by omega) M).mono ?_
      rintro e w' ⟨rfl, M', o⟩
      exact ⟨rfl, ⟨fun h => absurd h (by decide), fun _ => ⟨p, M'⟩⟩, o⟩
  · obtain ⟨p, M⟩ := R.2 hc
    have e1 : vN m L c = 0 := if_neg (fun h => hc h.1)
    have e2 : stL m L c = L := if_neg (fun h => hc h.1)
    have e3 : stC m L c = c := if_pos hc
    rw [e1, e2, e3]
    refine (s_number_bad b s p c m w hc M).mono ?_
    rintro e w' ⟨rfl, hb⟩
    exact ⟨rfl, R.below hb, Only.of_below hb⟩
theorem s_pre (b : Nat) (s : ByteArray) (L : List Int) (w : World) (hs : s.size ≤ 1000) (R : Rd w b s L 0) :
    Calls Try.prog 104 #[.pointer (some ⟨b, 0, none⟩)] w fun e w' => ∃ a l : Int, ∃ L' : List Int, e = .returned (.agg #[.int .i64 a, .int .i64 l]) ∧ Rd w' b s L' (rdCode L) ∧ Only b w w' ∧ (rdCode L = 0 → a = rdA L ∧ l = rdL L ∧ L' = L.drop (rdN L)) := by
  obtain ⟨p, hp, hL, M⟩ := R.1 rfl
  have hlen := rd_len hL hp
  cases L with
  | nil =>
    refine (s_prefixR_empty b s p w hs (by simpa using hlen.symm) M).mono ?_
    rintro e w' ⟨a, l, p', rfl, M', o⟩
    exact ⟨a, l, [], rfl, ⟨fun h => absurd h (by decide), fun _ => ⟨p', M'⟩⟩, o, fun h => absurd h (by decide)⟩
  | cons l D =>
    by_cases hl : l ≤ 32
    · by_cases hD : need l ≤ D.length
      · rw [rd_yes hl hD]
        refine (s_prefixR_yes b s p l D w hs hL hl hD M).mono ?_
        rintro e w' ⟨rfl, M', o⟩
        refine ⟨_, _, _, rfl, ⟨fun _ => ⟨p + 1 + need l, ?_, rfl, M'⟩, fun h => absurd rfl h⟩, o, fun _ => ⟨rfl, rfl, ?_⟩⟩
        · rw [List.length_cons] at hlen; omega
        · show _ = (l :: D).drop (1 + need l)
          rw [← hL, List.drop_drop]
          congr 1
          omega
      · rw [rd_short hl (by omega)]
        refine (s_prefixR_short b s p l D w hs hL hl (by omega) M).mono ?_
        rintro e w' ⟨a, l', p', rfl, M', o⟩
        exact ⟨a, l', [], rfl, ⟨fun h => absurd h (by decide), fun _ => ⟨p', M'⟩⟩, o, fun h => absurd h (by decide)⟩
    · rw [rd_big (by omega)]
      refine (s_prefixR_big b s p l D w hs hL (by omega) M).mono ?_
      rintro e w' ⟨a, l', p', rfl, M', o⟩
      exact ⟨a, l', [], rfl, ⟨fun h => absurd h (by decide), fun _ => ⟨p', M'⟩⟩, o, fun h => absurd h (by decide)⟩
/-- The i-th number of m bytes. -/
def nsV (m : Nat) (D : List Int) (i : Nat) : Int := val ((D.drop (m * i)).take m)
def nsC (m n : Nat) (D : List Int) (c1 : Int) : Int := if c1 ≠ 0 then c1 else if m * n ≤ D.length then 0 else 1
theorem nsC_bad {m n : Nat} {D : List Int} {c1 : Int} (h : c1 ≠ 0) : nsC m n D c1 = c1 := if_pos h
theorem nsC_ok {m n : Nat} {D : List Int} (h : m * n ≤ D.length) : nsC m n D 0 = 0 := by unfold nsC; rw [if_neg (by simp), if_pos h]
theorem nsC_no {m n : Nat} {D : List Int} (h : D.length < m * n) : nsC m n D 0 = 1 := by unfold nsC; rw [if_neg (by simp), if_neg (by omega)]
theorem ns_next (m : Nat) (D : List Int) (k : Nat) : (List.range (k + 1)).map (nsV m D) = (List.range k).map (nsV m D) ++ [nsV m D k] := by
  rw [List.range_succ, List.map_append]
  rfl
/-- How far the numbers have been read. -/
def NsSt (m n : Nat) (D : List Int) (c1 : Int) (k : Nat) (cc : Int) (LL Y : List Int) : Prop :=
  (cc = 0 → c1 = 0 ∧ m * k ≤ D.length ∧ LL = D.drop (m * k) ∧ Y = (List.range k).map (nsV m D)) ∧ (cc ≠ 0 → cc = nsC m n D c1)
/-- What numbers answers. -/
def NsAns (b : Nat) (s : ByteArray) (m n : Nat) (D : List Int) (c1 : Int) (w : World) (e : Ending) (w' : World) : Prop :=
  ∃ v Y, e = .returned v ∧ OwnN 3 .i64 w.heap.size v Y w' ∧ Only b w w' ∧ Rd w' b s (D.drop (m * n)) (nsC m n D c1) ∧ (nsC m n D c1 = 0 → Y = (List.range n).map (nsV m D))
set_option maxRecDepth 100000 in
set_option maxHeartbeats 1600000 in
theorem s_nums (b : Nat) (s : ByteArray) (L : List Int) (c : Int) (m : Nat) (w : World) (hs : s.size ≤ 1000) (hm : m ≤ 4) (hn0 : 0 ≤ vN 1 L c) (hn1 : vN 1 L c < 256) (R : Rd w b s L c) :
    Calls Try.prog 65 #[.pointer (some ⟨b, 0, none⟩), .int .i64 m] w (NsAns b s m (vN 1 L c).toNat (stL 1 L c) (stC 1 L c) w) := by
  have s1 := hide (fun w R => s_num b s L c 1 w hs (by omega) R)
  have hz : Hid (stC 1 L c ≠ 0 → vN 1 L c = 0) := by
    intro h
    unfold stC at h
    unfold vN
    by_cases hc : c = 0
    · by_cases hl : 1 ≤ L.length
      · rw [if_neg (by simpa using hc), if_pos hl] at h
        exact absurd rfl h
      · exact if_neg (fun k => hl k.2)
    · exact if_neg (fun k => hc k.1)
  have hlt := R.lt
  obtain ⟨n, hn⟩ := Int.eq_ofNat_of_zero_le hn0
  rw [hn] at s1 hz ⊢
  rw [Int.toNat_natCast]
  have hn255 : n < 256 := by omega
  clear hn hn0 hn1
  generalize stL 1 L c = D at *
  generalize stC 1 L c = c1 at *
  have s2 := hide (fun LL w R => s_num b s LL 0 m w hs hm R)
  go_enter Try.func65, Try.ntmps65
  go_wp2_with fail
  refine (s1.out _ R).mono ?_
  rintro e w1 ⟨rfl, R1, o1⟩
  clear s1 R
  go_wp2_with fail
  go_loopw [5, 6] (fun t x wr => ∃ (k : Nat) (cc : Int) (Y LL : List Int), k ≤ n ∧ x = .int .i64 ((n : Int) - k) ∧ OwnN 3 .i64 w.heap.size t Y wr ∧ Y.length = k ∧ Only b w wr ∧ Rd wr b s LL cc ∧ NsSt m n D c1 k cc LL Y) (fun _ x _ => (intOf x).toNat)
  case atStart =>
    refine ⟨0, c1, [], D, Nat.zero_le _, by simp, ownN_nil _ _ _ _, rfl, o1, R1, fun h => ⟨h, by omega, by simp, rfl⟩, fun h => (nsC_bad h).symm⟩
  case round =>
    clear R1 o1
    obtain ⟨k, cc, Y, LL, hk, rfl, hown, hYl, ho, hR, hok, hbad⟩ := hrel
    obtain ⟨pp, hMM⟩ := hR.mut
    have q2 := hMM.2.1 2 _ rfl
    have hokh := hide hok
    have hbadh := hide hbad
    clear hok hbad
    by_cases hcc : cc = 0
    · subst hcc
      obtain ⟨g1, g2, g3, g4⟩ := hokh.out rfl
      subst g1
      by_cases hlt2 : k < n
      · have hgt : (n : Int) - k > 0 := by omega
        have hYh := hide hYl
        have g3h := hide g3
        have g4h := hide g4
        clear g3 g4 hYl hokh hbadh
        go_wp2_with fail
        refine (s2.out _ _ hR).mono ?_
        rintro e w3 ⟨rfl, R3, o3⟩
        have hown3 := ownN_only hown o3 (by
          intro e
          have := (World.ownsRow.lt hown b e).1
          omega)
        have ho3 := ho.trans o3
        generalize hvv : vN m LL 0 = vv at *
        have hvh := hide hvv
        clear hvv hMM q2 o3 hown
        have hownA := ownN_below hown3 (below_box (Below.refl (w3.alloc (.cells #[.int .i64 vv] 3)).heap.size (w3.alloc (.cells #[.int .i64 vv] 3))))
        have hsrc := src1 w3 vv 3
        have hoA : Only b w (w3.alloc (.cells #[.int .i64 vv] 3)) := ho3.alloc _
        have hbs : w.heap.size ≤ (w3.alloc (.cells #[.int .i64 vv] 3)).heap.size := hoA.2.2.2.1
        have hLL : Hid (Y.length + [vv].length ≤ 8589934593) := by show _ ≤ _; rw [hYh.out]; simp; omega
        have RA := R3.below (below_box (Below.refl (w3.alloc (.cells #[.int .i64 vv] 3)).heap.size (w3.alloc (.cells #[.int .i64 vv] 3))))
        clear hown3 ho3 R3
        go_wp2_with (first | (at_builtin; refine wpList_appN numInt rfl _ _ rfl w.heap.size _ Y rfl hownA _ [vv] 1 1 rfl rfl hsrc hLL.out (by decide) hbs ?_))
        intro v4 w4 own4 b4 _ _
        have ho4 := hoA.thenBelowN b4 (Nat.le_refl _)
        have R4 := RA.base (by omega) b4
        go_wp2_with fail
        refine ⟨⟨k + 1, stC m LL 0, Y ++ [vv], stL m LL 0, by omega, by congr 1; omega, own4, by rw [List.length_append, hYh.out]; rfl, ho4, R4, (show NsSt m n D 0 (k + 1) (stC m LL 0) (stL m LL 0) (Y ++ [vv]) from ⟨fun h => ?_, fun h => ?_⟩)⟩, by simp [intOf]; omega⟩
        · have hml : m ≤ LL.length := by
            unfold stC at h
            by_cases q : m ≤ LL.length
            · exact q
            · rw [if_neg (by simp), if_neg q] at h
              exact absurd h (by decide)
          have e1 : LL.length = D.length - m * k := by rw [g3h.out, List.length_drop]
          refine ⟨rfl, by rw [Nat.mul_succ]; omega, ?_, ?_⟩
          · rw [show stL m LL 0 = LL.drop m from if_pos ⟨rfl, hml⟩, g3h.out, List.drop_drop, Nat.mul_succ]
          · rw [ns_next, ← g4h.out, ← hvh.out, show vN m LL 0 = val (LL.take m) from if_pos ⟨rfl, hml⟩]
            unfold nsV
            rw [g3h.out]
        · have hml : ¬ m ≤ LL.length := by
            intro q
            apply h
            unfold stC
            rw [if_neg (by simp), if_pos q]
          have e1 : LL.length = D.length - m * k := by rw [g3h.out, List.length_drop]
          have e2 : D.length < m * n := by
            have := Nat.mul_le_mul_left m (show k + 1 ≤ n by omega)
            rw [Nat.mul_succ] at this
            omega
          rw [nsC_no e2]
          unfold stC
          rw [if_neg (by simp), if_neg hml]
      · have hk' : k = n := by omega
        subst hk'
        have hgt : ¬ ((k : Int) - k > 0) := by omega
        have e0 := nsC_ok (m := m) (n := k) g2
        rw [g3] at hR
        go_wp2_with fail
        refine bodyPost_ret (by simp [results, Try.results65, go_sem]) rfl (show NsAns b s m _ D _ w _ _ from ⟨_, Y, rfl, hown, ho, by rw [e0]; exact hR, fun _ => g4⟩)
    · have hb := hbadh.out hcc
      have hcb : (cc == 0) = false := by simpa using hcc
      have hcc2 := hide hcc
      clear hcc
      by_cases hlt2 : k < n
      · have hgt : (n : Int) - k > 0 := by omega
        have hbh := hide hb
        clear hb
        go_wp2_with fail
        refine bodyPost_ret (by simp [results, Try.results65, go_sem]) rfl (show NsAns b s m _ D _ w _ _ from ⟨_, Y, rfl, hown, ho, ?_, fun h => ?_⟩)
        · rw [← hbh.out]
          exact ⟨fun h => absurd h hcc2.out, hR.2⟩
        · rw [← hbh.out] at h
          exact absurd h hcc2.out
      · have hk' : k = n := by omega
        subst hk'
        have hgt : ¬ ((k : Int) - k > 0) := by omega
        have hbh := hide hb
        clear hb
        go_wp2_with fail
        refine bodyPost_ret (by simp [results, Try.results65, go_sem]) rfl (show NsAns b s m _ D _ w _ _ from ⟨_, Y, rfl, hown, ho, ?_, fun h => ?_⟩)
        · rw [← hbh.out]
          exact ⟨fun h => absurd h hcc2.out, hR.2⟩
        · rw [← hbh.out] at h
          exact absurd h hcc2.out
end Go.Proofs.Ytoeephmdklmpfaa
