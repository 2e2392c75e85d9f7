/- Reading lists: what the program's takeNumber, takePrefix, takeNumbers and takeNlri answer from any state of the front. -/
import Derived.Test.YtoeephmdklmpfaaS4o
import Derived.Test.YtoeephmdklmpfaaI4t
namespace Go.Proofs.Ytoeephmdklmpfaa
open Go.RowKit

/-- The front in block b, its bytes in block g: L is left, or there is a fault. -/
def Fr (w : World) (b g : Nat) (L : List Int) (c : Int) : Prop := ∃ L', Frt w b g L' c ∧ (∀ x ∈ L', 0 ≤ x ∧ x < 256) ∧ (c = 0 → L' = L)
theorem Fr.lt {w : World} {b g : Nat} {L : List Int} {c : Int} (h : Fr w b g L c) : b < w.heap.size := by
  obtain ⟨L', h1, _⟩ := h
  exact h1.lt
theorem Fr.below {w w' : World} {b g : Nat} {L : List Int} {c : Int} (h : Fr w b g L c) (k : Below w.heap.size w w') : Fr w' b g L c := by
  obtain ⟨L', h1, h2, h3⟩ := h
  exact ⟨L', h1.below k, h2, h3⟩
theorem Fr.base {w w' : World} {b g base : Nat} {L : List Int} {c : Int} (h : Fr w b g L c) (hb : b < base) (hg : g < base) (k : Below base w w') : Fr w' b g L c := by
  obtain ⟨L', h1, h2, h3⟩ := h
  exact ⟨L', h1.base k hb hg, h2, h3⟩
theorem Fr.bad {w : World} {b g : Nat} {L : List Int} {c : Int} (h : Fr w b g L c) (hc : c ≠ 0) (M : List Int) : Fr w b g M c := by
  obtain ⟨L', h1, h2, _⟩ := h
  exact ⟨L', h1, h2, fun e => absurd e hc⟩
theorem i_num (b g : Nat) (L : List Int) (c : Int) (m : Nat) (w : World) (hg : g ≠ b) (hm : m ≤ 4) (F : Fr w b g L c) :
    Calls Try.prog 143 #[.pointer (some ⟨b, 0, none⟩), .int .i64 m] w fun e w' => e = .returned (.int .i64 (vN m L c)) ∧ Fr w' b g (stL m L c) (stC m L c) ∧ Only b w w' := by
  obtain ⟨L', F1, hB, hL⟩ := F
  by_cases hc : c = 0
  · subst hc
    obtain rfl := hL rfl
    by_cases hml : m ≤ L'.length
    · have e1 : vN m L' 0 = val (L'.take m) := if_pos ⟨rfl, hml⟩
      have e2 : stL m L' 0 = L'.drop m := if_pos ⟨rfl, hml⟩
      have e3 : stC m L' 0 = 0 := by unfold stC; rw [if_neg (by simp), if_pos hml]
      rw [e1, e2, e3]
      refine (i_takeNumber_yes b g m L' w hg hm hml hB F1).mono ?_
      rintro e w' ⟨rfl, F2, o⟩
      exact ⟨rfl, ⟨_, F2, fun x hx => hB x (List.mem_of_mem_drop hx), fun _ => rfl⟩, o⟩
    · have e1 : vN m L' 0 = 0 := if_neg (fun h => hml h.2)
      have e2 : stL m L' 0 = L' := if_neg (fun h => hml h.2)
      have e3 : stC m L' 0 = 1 := by unfold stC; rw [if_neg (by simp), if_neg hml]
      rw [e1, e2, e3]
      refine (i_takeNumber_short b g m L' w hg (by omega) F1).mono ?_
      rintro e w' ⟨rfl, F2, o⟩
      exact ⟨rfl, ⟨_, F2, hB, fun _ => rfl⟩, o⟩
  · have e1 : vN m L c = 0 := if_neg (fun h => hc h.1)
    have e2 : stL m L c = L := if_neg (fun h => hc h.1)
    have e3 : stC m L c = c := if_pos hc
    rw [e1, e2, e3]
    refine (i_takeNumber_bad b g m L' c w hc F1).mono ?_
    rintro e w' ⟨rfl, rfl⟩
    exact ⟨rfl, ⟨L', F1, hB, hL⟩, Only.refl _ _⟩
theorem i_pre (b g : Nat) (L : List Int) (c : Int) (w : World) (hg : g < b) (F : Fr w b g L c) :
    Calls Try.prog 144 #[.pointer (some ⟨b, 0, none⟩)] w fun e w' => ∃ a l : Int, ∃ L' : List Int, e = .returned (.agg #[.int .i64 a, .int .i64 l]) ∧ Fr w' b g L' (if c ≠ 0 then c else rdCode L) ∧ Only b w w' ∧ (c = 0 → rdCode L = 0 → a = rdA L ∧ l = rdL L ∧ L' = L.drop (rdN L)) := by
  obtain ⟨L', F1, hB, hL⟩ := F
  by_cases hc : c = 0
  · subst hc
    obtain rfl := hL rfl
    rw [if_neg (by simp)]
    cases L' with
    | nil =>
      refine (i_takePrefix_empty b g w hg F1).mono ?_
      rintro e w' ⟨rfl, F2, o⟩
      exact ⟨_, _, [], rfl, ⟨_, F2, by simp, fun _ => rfl⟩, o, fun _ h => absurd h (by decide)⟩
    | cons l D =>
      by_cases hl : l ≤ 32
      · by_cases hD : need l ≤ D.length
        · rw [rd_yes hl hD]
          refine (i_takePrefix_yes b g l D w hg hl hD hB F1).mono ?_
          rintro e w' ⟨rfl, F2, o⟩
          refine ⟨_, _, D.drop (need l), rfl, ⟨_, F2, fun x hx => hB x (List.mem_cons_of_mem _ (List.mem_of_mem_drop hx)), fun _ => rfl⟩, o, fun _ _ => ⟨rfl, rfl, ?_⟩⟩
          show _ = (l :: D).drop (1 + need l)
          rw [Nat.add_comm]
          rfl
        · rw [rd_short hl (by omega)]
          refine (i_takePrefix_short b g l D w hg hl (by omega) hB F1).mono ?_
          rintro e w' ⟨rfl, F2, o⟩
          exact ⟨_, _, D, rfl, ⟨_, F2, fun x hx => hB x (List.mem_cons_of_mem _ hx), fun _ => rfl⟩, o, fun _ h => absurd h (by decide)⟩
      · rw [rd_big (by omega)]
        refine (i_takePrefix_big b g l D w hg (by omega) hB F1).mono ?_
        rintro e w' ⟨rfl, F2, o⟩
        exact ⟨_, _, D, rfl, ⟨_, F2, fun x hx => hB x (List.mem_cons_of_mem _ hx), fun _ => rfl⟩, o, fun _ h => absurd h (by decide)⟩
  · rw [if_pos hc]
    refine (i_takePrefix_bad b g L' c w hg hc F1).mono ?_
    rintro e w' ⟨rfl, F2, o⟩
    exact ⟨_, _, L, rfl, ⟨L', F2, hB, hL⟩, o, fun h => absurd h hc⟩
def NfAns (b g m n : Nat) (D : List Int) (c1 : Int) (w : World) (e : Ending) (w' : World) : Prop :=
  ∃ v Y, e = .returned v ∧ OwnN 3 .i64 w.heap.size v Y w' ∧ Only b w w' ∧ Fr w' b g (D.drop (m * n)) (nsC m n D c1) ∧ (nsC m n D c1 = 0 → Y = (List.range n).map (nsV m D))
def PfAns (b g n : Nat) (D : List Int) (c1 : Int) (w : World) (e : Ending) (w' : World) : Prop :=
  ∃ v Y, e = .returned v ∧ OwnP w.heap.size v Y w' ∧ Only b w w' ∧ Fr w' b g (prR D n) (prC n D c1) ∧ (prC n D c1 = 0 → Y = prL D n)
set_option maxRecDepth 100000 in
set_option maxHeartbeats 1600000 in
theorem i_nums (b g : Nat) (L : List Int) (c : Int) (m : Nat) (w : World) (hg : g < b) (hm : m ≤ 4) (hn0 : 0 ≤ vN 1 L c) (hn1 : vN 1 L c < 256) (R : Fr w b g L c) :
    Calls Try.prog 145 #[.pointer (some ⟨b, 0, none⟩), .int .i64 m] w (NfAns b g m (vN 1 L c).toNat (stL 1 L c) (stC 1 L c) w) := by
  have s1 := hide (fun w R => i_num b g L c 1 w (by omega) (by omega) R)
  have hlt := R.lt
  obtain ⟨n, hn⟩ := Int.eq_ofNat_of_zero_le hn0
  rw [hn] at s1 ⊢
  rw [Int.toNat_natCast]
  have hn255 : n < 256 := by omega
  clear hn hn0 hn1
  generalize stL 1 L c = D at *
  generalize stC 1 L c = c1 at *
  have s2 := hide (fun LL cc w R => i_num b g LL cc m w (by omega) hm R)
  go_enter Try.func145, Try.ntmps145
  go_wp2_with fail
  refine (s1.out _ R).mono ?_
  rintro e w1 ⟨rfl, R1, o1⟩
  clear s1 R
  go_wp2_with fail
  go_loopw [5, 8] (fun t x wr => ∃ (k : Nat) (cc : Int) (Y LL : List Int), k ≤ n ∧ x = .int .i64 k ∧ OwnN 3 .i64 w.heap.size t Y wr ∧ Y.length = k ∧ Only b w wr ∧ Fr wr b g LL cc ∧ NsSt m n D c1 k cc LL Y) (fun _ x _ => n - (intOf x).toNat)
  case atStart =>
    refine ⟨0, c1, [], D, Nat.zero_le _, by simp, ownN_nil _ _ _ _, rfl, o1, R1, fun h => ⟨h, by omega, by simp, rfl⟩, fun h => (nsC_bad h).symm⟩
  case round =>
    clear R1 o1
    obtain ⟨k, cc, Y, LL, hk, rfl, hown, hYl, ho, hR, hst⟩ := hrel
    have hsth := hide hst
    have hYh := hide hYl
    clear hst hYl
    by_cases hlt2 : k < n
    · have hgt : (k : Int) < (n : Int) := by omega
      go_wp2_with fail
      refine (s2.out _ _ _ hR).mono ?_
      rintro e w3 ⟨rfl, R3, o3⟩
      have hown3 := ownN_only hown o3 (by
        intro e
        have := (World.ownsRow.lt hown b e).1
        omega)
      have ho3 := ho.trans o3
      generalize hvv : vN m LL cc = vv at *
      have hvh := hide hvv
      clear hvv o3 hown
      have hownA := ownN_below hown3 (below_box (Below.refl (w3.alloc (.cells #[.int .i64 vv] 3)).heap.size (w3.alloc (.cells #[.int .i64 vv] 3))))
      have hsrc := src1 w3 vv 3
      have hoA : Only b w (w3.alloc (.cells #[.int .i64 vv] 3)) := ho3.alloc _
      have hbs : w.heap.size ≤ (w3.alloc (.cells #[.int .i64 vv] 3)).heap.size := hoA.2.2.2.1
      have hLL : Hid (Y.length + [vv].length ≤ 8589934593) := by show _ ≤ _; rw [hYh.out]; simp; omega
      have RA := R3.below (below_box (Below.refl (w3.alloc (.cells #[.int .i64 vv] 3)).heap.size (w3.alloc (.cells #[.int .i64 vv] 3))))
      clear hown3 ho3 R3
      go_wp2_with (first | (at_builtin; refine wpList_appN numInt rfl _ _ rfl w.heap.size _ Y rfl hownA _ [vv] 1 1 rfl rfl hsrc hLL.out (by decide) hbs ?_))
      intro v4 w4 own4 b4 _ _
      have ho4 := hoA.thenBelowN b4 (Nat.le_refl _)
      have R4 := RA.base (by omega) (by omega) b4
      go_wp2_with fail
      refine ⟨⟨k + 1, stC m LL cc, Y ++ [vv], stL m LL cc, by omega, by go_num, own4, by rw [List.length_append, hYh.out]; rfl, ho4, R4, (show NsSt m n D c1 (k + 1) (stC m LL cc) (stL m LL cc) (Y ++ [vv]) from ⟨fun h => ?_, fun h => ?_⟩)⟩, by simp [intOf]; omega⟩
      · by_cases hcc : cc = 0
        · subst hcc
          obtain ⟨g1, g2, g3, g4⟩ := hsth.out.1 rfl
          have hml : m ≤ LL.length := by
            unfold stC at h
            by_cases q : m ≤ LL.length
            · exact q
            · rw [if_neg (by simp), if_neg q] at h
              exact absurd h (by decide)
          have e1 : LL.length = D.length - m * k := by rw [g3, List.length_drop]
          refine ⟨g1, by rw [Nat.mul_succ]; omega, ?_, ?_⟩
          · rw [show stL m LL 0 = LL.drop m from if_pos ⟨rfl, hml⟩, g3, List.drop_drop, Nat.mul_succ]
          · rw [ns_next, ← g4, ← hvh.out, show vN m LL 0 = val (LL.take m) from if_pos ⟨rfl, hml⟩]
            unfold nsV
            rw [g3]
        · rw [show stC m LL cc = cc from if_pos hcc] at h
          exact absurd h hcc
      · by_cases hcc : cc = 0
        · subst hcc
          obtain ⟨g1, g2, g3, g4⟩ := hsth.out.1 rfl
          have hml : ¬ m ≤ LL.length := by
            intro q
            apply h
            unfold stC
            rw [if_neg (by simp), if_pos q]
          have e1 : LL.length = D.length - m * k := by rw [g3, List.length_drop]
          have e2 : D.length < m * n := by
            have := Nat.mul_le_mul_left m (show k + 1 ≤ n by omega)
            rw [Nat.mul_succ] at this
            omega
          rw [g1, nsC_no e2]
          unfold stC
          rw [if_neg (by simp), if_neg hml]
        · rw [show stC m LL cc = cc from if_pos hcc]
          exact hsth.out.2 hcc
    · have hk' : k = n := by omega
      subst hk'
      go_wp2_with fail
      refine bodyPost_ret (v := u5) (by simp [results, Try.results145, go_sem]) rfl (show NfAns b g m _ D _ w _ _ from ?_)
      by_cases hcc : cc = 0
      · subst hcc
        obtain ⟨g1, g2, g3, g4⟩ := hsth.out.1 rfl
        subst g1
        exact ⟨_, Y, rfl, hown, ho, by rw [nsC_ok g2, ← g3]; exact hR, fun _ => g4⟩
      · have e := hsth.out.2 hcc
        exact ⟨_, Y, rfl, hown, ho, by rw [← e]; exact hR.bad hcc _, fun h => absurd (e.trans h) hcc⟩
set_option maxRecDepth 100000 in
set_option maxHeartbeats 1600000 in
theorem i_prefs (b g : Nat) (L : List Int) (c : Int) (w : World) (hg : g < b) (hn0 : 0 ≤ vN 1 L c) (hn1 : vN 1 L c < 256) (R : Fr w b g L c) :
    Calls Try.prog 109 #[.pointer (some ⟨b, 0, none⟩)] w (PfAns b g (vN 1 L c).toNat (stL 1 L c) (stC 1 L c) w) := by
  have s1 := hide (fun w R => i_num b g L c 1 w (by omega) (by omega) R)
  have hlt := R.lt
  obtain ⟨n, hn⟩ := Int.eq_ofNat_of_zero_le hn0
  rw [hn] at s1 ⊢
  rw [Int.toNat_natCast]
  have hn255 : n < 256 := by omega
  clear hn hn0 hn1
  generalize stL 1 L c = D at *
  generalize stC 1 L c = c1 at *
  have s2 := hide (fun LL cc w R => i_pre b g LL cc w hg R)
  go_enter Try.func109, Try.ntmps109
  go_wp2_with fail
  refine (s1.out _ R).mono ?_
  rintro e w1 ⟨rfl, R1, o1⟩
  clear s1 R
  go_wp2_with fail
  go_loopw [3, 6] (fun t x wr => ∃ (k : Nat) (cc : Int) (Y : List Pf) (LL : List Int), k ≤ n ∧ x = .int .i64 k ∧ OwnP w.heap.size t Y wr ∧ Y.length = k ∧ Only b w wr ∧ Fr wr b g LL cc ∧ PsSt n D c1 k cc LL Y) (fun _ x _ => n - (intOf x).toNat)
  case atStart =>
    refine ⟨0, c1, [], D, Nat.zero_le _, by simp, ownP_nil _ _, rfl, o1, R1, fun h => ⟨h, rfl, rfl, rfl⟩, fun h => (prC_bad h).symm⟩
  case round =>
    clear R1 o1
    obtain ⟨k, cc, Y, LL, hk, rfl, hown, hYl, ho, hR, hst⟩ := hrel
    have hsth := hide hst
    have hYh := hide hYl
    clear hst hYl
    by_cases hlt2 : k < n
    · have hgt : (k : Int) < (n : Int) := by omega
      go_wp2_with fail
      refine (s2.out _ _ _ hR).mono ?_
      rintro e w3 ⟨qa, ql, L3, rfl, R3, o3, hres⟩
      have hresh := hide hres
      have hown3 := ownP_only hown o3 (by
        intro e
        have := (World.ownsRow.lt hown b e).1
        omega)
      have ho3 := ho.trans o3
      clear o3 hown hres
      have hownA := ownP_below hown3 (below_box (Below.refl (w3.alloc (.cells #[.int .i64 qa, .int .i64 ql] 122)).heap.size (w3.alloc (.cells #[.int .i64 qa, .int .i64 ql] 122))))
      have hoA : Only b w (w3.alloc (.cells #[.int .i64 qa, .int .i64 ql] 122)) := ho3.alloc _
      have hbs : w.heap.size ≤ (w3.alloc (.cells #[.int .i64 qa, .int .i64 ql] 122)).heap.size := hoA.2.2.2.1
      have hLL : Hid (Y.length + [(qa, ql)].length ≤ 8589934593) := by show _ ≤ _; rw [hYh.out]; simp; omega
      have RA := R3.below (below_box (Below.refl (w3.alloc (.cells #[.int .i64 qa, .int .i64 ql] 122)).heap.size (w3.alloc (.cells #[.int .i64 qa, .int .i64 ql] 122))))
      generalize hcn : (if cc ≠ 0 then cc else rdCode LL) = cn at *
      have hcnh := hide hcn
      clear hown3 ho3 R3 hcn
      go_wp2_with (first | (at_builtin; refine wpList_appP rfl _ _ rfl w.heap.size _ Y rfl hownA (some ⟨w3.heap.size, 0, none⟩) [(qa, ql)] 1 rfl ⟨RowP.one (by simp) (by simp) (by simp), .inr ⟨_, _, rfl⟩⟩ hLL.out hbs ?_))
      intro v4 w4 own4 b4 _
      have ho4 := hoA.thenBelowN b4 (Nat.le_refl _)
      have R4 := RA.base (by omega) (by omega) b4
      go_wp2_with fail
      refine ⟨⟨k + 1, cn, Y ++ [(qa, ql)], L3, by omega, by go_num, own4, by rw [List.length_append, hYh.out]; rfl, ho4, R4, (show PsSt n D c1 (k + 1) cn L3 (Y ++ [(qa, ql)]) from ⟨fun h => ?_, fun h => ?_⟩)⟩, by simp [intOf]; omega⟩
      · have hcn := hcnh.out
        by_cases hcc : cc = 0
        · subst hcc
          rw [if_neg (by simp), h] at hcn
          obtain ⟨g1, g2, g3, g4⟩ := hsth.out.1 rfl
          obtain ⟨e1, e2, e3⟩ := hresh.out rfl hcn
          refine ⟨g1, ?_, ?_, ?_⟩
          · rw [prC0_next g2, ← g3]; exact hcn
          · show L3 = (prR D k).drop (rdN (prR D k))
            rw [← g3, e3]
          · rw [prL_next, ← g4, ← g3, e1, e2]
        · rw [if_pos hcc] at hcn
          exact absurd (hcn.trans h) hcc
      · have hcn := hcnh.out
        by_cases hcc : cc = 0
        · subst hcc
          rw [if_neg (by simp)] at hcn
          obtain ⟨g1, g2, g3, g4⟩ := hsth.out.1 rfl
          have e1 := prC0_next g2
          rw [← g3, hcn] at e1
          rw [g1, prC_ok, prC0_stay (k := k + 1) (by rw [e1]; exact h) (by omega), e1]
        · rw [if_pos hcc] at hcn
          rw [← hcn]
          exact hsth.out.2 hcc
    · have hk' : k = n := by omega
      subst hk'
      go_wp2_with fail
      refine bodyPost_ret (v := u3) (by simp [results, Try.results109, go_sem]) rfl (show PfAns b g _ D _ w _ _ from ?_)
      by_cases hcc : cc = 0
      · subst hcc
        obtain ⟨g1, g2, g3, g4⟩ := hsth.out.1 rfl
        subst g1
        exact ⟨_, Y, rfl, hown, ho, by rw [prC_ok, g2, ← g3]; exact hR, fun _ => g4⟩
      · have e := hsth.out.2 hcc
        exact ⟨_, Y, rfl, hown, ho, by rw [← e]; exact hR.bad hcc _, fun h => absurd (e.trans h) hcc⟩
end Go.Proofs.Ytoeephmdklmpfaa
