/- l1Put with where its answer lies. -/
import Derived.Test.YtflakkbodbnndaaS6ra
namespace Go.Proofs.Ytflakkbodbnndaa
open Go.RowKit

/-- A list lies where another one lies, or behind n. -/
def NewOr (a a' : Option Addr) (n : Nat) : Prop := ∀ b off, a' = some ⟨b, off, none⟩ → a = some ⟨b, off, none⟩ ∨ n ≤ b
theorem own_src {e : TypeId} {k : IntKind} {w : World} {base : Nat} {a : Option Addr} {c : Nat} {L : List Int} (h : OwnN e k base (.slice a L.length c) L w) {b off : Nat} (ha : a = some ⟨b, off, none⟩) : base ≤ b := by
  rcases h.2 with ⟨h1, h2⟩ | ⟨g, cap, cur, h1, hb, _⟩
  · rw [ha] at h1; simp at h1
  · simp only [Value.slice.injEq] at h1
    rw [ha] at h1
    simp only [Option.some.injEq, Addr.mk.injEq] at h1
    omega
set_option maxRecDepth 100000 in
set_option maxHeartbeats 800000 in
theorem s_l1PutX (a : Option Addr) (L : List Int) (c : Nat) (x : Int) (w : World) (hl : L.length ≤ 1048576) (hc : L.length ≤ c) (S : SrcN .i64 a L c w) :
    Calls Try.prog 50 #[.slice a L.length c, .int .i64 x] w fun e w' => ∃ a' c', e = .returned (.slice a' (putN L x).length c') ∧ (putN L x).length ≤ c' ∧ SrcN .i64 a' (putN L x) c' w' ∧ Below w.heap.size w w' ∧ NewOr a a' w.heap.size := by
  generalize hn : L.length = n at *
  go_enter Try.func50, Try.ntmps50
  go_wp2_with fail
  go_loop [5] (fun i => ∃ k : Nat, k ≤ n ∧ i = .int .i64 k ∧ Hid (∀ i, i < k → L.getD i 0 < x)) (fun i => n - (intOf i).toNat)
  case atStart => exact ⟨0, Nat.zero_le _, rfl, fun i hi => absurd hi (Nat.not_lt_zero _)⟩
  case round =>
    obtain ⟨k, hk, rfl, hno⟩ := hrel
    by_cases hlt : k < n
    · obtain ⟨b, off, rfl, hbw, e0⟩ := S.1 k (by omega)
      have hlt' : (k : Int) < (n : Int) := by omega
      by_cases he : L.getD k 0 < x
      · have hS : Hid (∀ i, i < k + 1 → L.getD i 0 < x) := by
          intro i hi
          by_cases e : i < k
          · exact hno.out i e
          · rw [show i = k by omega]; exact he
        clear hno S
        generalize L.getD k 0 = y at *
        go_wp2_with fail
        exact ⟨⟨k + 1, by omega, by go_num, hS⟩, by simp [intOf]; omega⟩
      · have hP := put_here (n := x) (l := L) (k := k) (by omega) hno.out (fun _ => he)
        by_cases hq : L.getD k 0 = x
        · rw [if_pos ⟨by omega, hq⟩] at hP
          have hA : Hid (∃ a' c', Ending.returned (.slice (some ⟨b, off, none⟩) n c) = .returned (.slice a' (putN L x).length c') ∧ (putN L x).length ≤ c' ∧ SrcN .i64 a' (putN L x) c' w ∧ Below w.heap.size w w ∧ NewOr (some ⟨b, off, none⟩) a' w.heap.size) := by
            rw [hP, hn]
            exact ⟨_, _, rfl, hc, S, Below.refl _ _, fun b off h => .inl h⟩
          have hq' : (L.getD k 0 == x) = true := by simpa using hq
          clear hno S hP hq
          generalize L.getD k 0 = y at *
          go_wp2_with fail
          go_ret
          exact hA.out
        · rw [if_neg (fun h => hq h.2)] at hP
          have hq' : (L.getD k 0 == x) = false := by simpa using hq
          rw [List.append_assoc, List.singleton_append] at hP
          replace hP := hide hP
          clear hq
          generalize L.getD k 0 = y at *
          have hlk := hide (show k = (L.take k).length by rw [List.length_take]; omega)
          have hld := hide (show n - k = (L.drop k).length by rw [List.length_drop]; omega)
          have hb1 : Hid (([] : List Int).length + (L.take k).length ≤ 8589934593) := by show _ ≤ _; simp; omega
          have hb2 : Hid ((L.take k).length + [x].length ≤ 8589934593) := by show _ ≤ _; simp; omega
          have hb3 : Hid ((L.take k ++ [x]).length + (L.drop k).length ≤ 8589934593) := by show _ ≤ _; simp; omega
          have Sk : SrcN .i64 (some ⟨b, off, none⟩) (L.take k) c w := src_take S k
          have Sd : SrcN .i64 (some ⟨b, off + k, none⟩) (L.drop k) (c - k) w := src_drop S k
          have hm0 := ownN_nil 3 .i64 w.heap.size w
          have hkc : k ≤ c := by omega
          clear hno S
          generalize L.take k = T1 at *
          generalize L.drop k = D1 at *
          go_wp2_with (first | (at_builtin; refine wpList_appN numInt rfl _ _ rfl w.heap.size _ [] rfl hm0 _ T1 k c rfl hlk.out Sk hb1.out (by decide) (Nat.le_refl _) ?_))
          intro v1 w1 own1 b1 _ _
          obtain ⟨a1, c1, rfl, _, _⟩ := ownN_row own1
          have bx : Below w1.heap.size w1 (w1.alloc (.cells #[.int .i64 x] 3)) := below_box (Below.refl _ _)
          have hownA := ownN_below own1 bx
          have hsrc := src1r w1 x 3
          have dx := b1.trans (bx.mono b1.size)
          have hbs := dx.size
          clear bx own1 hm0
          go_wp2_with (first | (at_builtin; refine wpList_appN numInt rfl _ _ rfl w.heap.size _ T1 rfl hownA _ [x] 1 1 rfl rfl hsrc hb2.out (by decide) hbs ?_))
          intro v2 w2 own2 b2 _ _
          obtain ⟨a2, c2, rfl, _, _⟩ := ownN_row own2
          have d2 := dx.trans b2
          have Sd2 := Sd.below d2
          have hbs2 := d2.size
          clear hownA hsrc dx hbs b2 Sd Sk b1
          go_wp2_with (first | (at_builtin; refine wpList_appN numInt rfl _ _ rfl w.heap.size _ (T1 ++ [x]) rfl own2 _ D1 _ _ rfl hld.out Sd2 hb3.out (by decide) hbs2 ?_))
          intro v3 w3 own3 b3 _ _
          obtain ⟨a3, c3, rfl, s3⟩ := SrcN.own own3
          have d3 := d2.trans b3
          go_wp2_with fail
          go_ret
          rw [hP.out]
          exact ⟨a3, c3, rfl, own_cap own3, s3, d3, fun b off h => .inr (own_src own3 h)⟩
    · have hP := put_here (n := x) (l := L) (k := k) (by omega) hno.out (fun h => absurd h (by omega))
      rw [if_neg (fun h => absurd h.1 (by omega))] at hP
      rw [List.append_assoc, List.singleton_append] at hP
      replace hP := hide hP
      have hlt' : ¬ (k : Int) < (n : Int) := by omega
      cases a with
      | none =>
        obtain ⟨rfl, rfl⟩ : L = [] ∧ c = 0 := by
          rcases S.2 with ⟨_, h⟩ | ⟨b, off, h⟩
          · exact h
          · exact absurd h (by simp)
        obtain rfl : n = 0 := by simpa using hn.symm
        obtain rfl : k = 0 := by omega
        replace hP := hide (show putN [] x = [x] from rfl)
        have hm0 := ownN_nil 3 .i64 w.heap.size w
        have S0 : SrcN .i64 none [] 0 w := S
        have bx : Below w.heap.size w (w.alloc (.cells #[.int .i64 x] 3)) := below_box (Below.refl _ _)
        have hownA := ownN_below hm0 bx
        have hsrc := src1r w x 3
        have hbs := bx.size
        clear hno S
        go_wp2_with (first | (at_builtin; refine wpList_appN numInt rfl _ _ rfl w.heap.size _ [] rfl hownA _ [x] 1 1 rfl rfl hsrc (by simp) (by decide) hbs ?_))
        intro v2 w2 own2 b2 _ _
        obtain ⟨a2, c2, rfl, _, _⟩ := ownN_row own2
        have d2 := bx.trans b2
        have S2 := S0.below d2
        have hbs2 := d2.size
        clear hownA hsrc hbs b2 bx hm0 S0
        go_wp2_with (first | (at_builtin; refine wpList_appN numInt rfl _ _ rfl w.heap.size _ [x] rfl own2 _ [] _ _ rfl rfl S2 (by simp) (by decide) hbs2 ?_))
        intro v3 w3 own3 b3 _ _
        obtain ⟨a3, c3, rfl, s3⟩ := SrcN.own own3
        have d3 := d2.trans b3
        go_wp2_with fail
        go_ret
        rw [hP.out]
        exact ⟨a3, c3, rfl, own_cap own3, s3, d3, fun b off h => .inr (own_src own3 h)⟩
      | some p =>
        obtain ⟨b, off, e⟩ : ∃ b off, p = ⟨b, off, none⟩ := by
          rcases S.2 with ⟨h, _⟩ | ⟨b, off, h⟩
          · exact absurd h (by simp)
          · exact ⟨b, off, by simpa using h⟩
        subst e
        by_cases hck : c = k
        · replace hck := hck.symm
          subst hck
          have hlk := hide (show k = (L.take k).length by rw [List.length_take]; omega)
          have hld := hide (show 0 = (L.drop k).length by rw [List.length_drop]; omega)
          have hb1 : Hid (([] : List Int).length + (L.take k).length ≤ 8589934593) := by show _ ≤ _; simp; omega
          have hb2 : Hid ((L.take k).length + [x].length ≤ 8589934593) := by show _ ≤ _; simp; omega
          have hb3 : Hid ((L.take k ++ [x]).length + (L.drop k).length ≤ 8589934593) := by show _ ≤ _; simp; omega
          have Sk : SrcN .i64 (some ⟨b, off, none⟩) (L.take k) k w := src_take S k
          have Sd : SrcN .i64 (some ⟨b, off, none⟩) (L.drop k) 0 w := src_none b off 0 w (List.drop_of_length_le (by omega))
          have hm0 := ownN_nil 3 .i64 w.heap.size w
          clear hno S
          generalize L.take k = T1 at *
          generalize L.drop k = D1 at *
          go_wp2_with (first | (at_builtin; refine wpList_appN numInt rfl _ _ rfl w.heap.size _ [] rfl hm0 _ T1 k k rfl hlk.out Sk hb1.out (by decide) (Nat.le_refl _) ?_))
          intro v1 w1 own1 b1 _ _
          obtain ⟨a1, c1, rfl, _, _⟩ := ownN_row own1
          have bx : Below w1.heap.size w1 (w1.alloc (.cells #[.int .i64 x] 3)) := below_box (Below.refl _ _)
          have hownA := ownN_below own1 bx
          have hsrc := src1r w1 x 3
          have dx := b1.trans (bx.mono b1.size)
          have hbs := dx.size
          clear bx own1 hm0
          go_wp2_with (first | (at_builtin; refine wpList_appN numInt rfl _ _ rfl w.heap.size _ T1 rfl hownA _ [x] 1 1 rfl rfl hsrc hb2.out (by decide) hbs ?_))
          intro v2 w2 own2 b2 _ _
          obtain ⟨a2, c2, rfl, _, _⟩ := ownN_row own2
          have d2 := dx.trans b2
          have Sd2 := Sd.below d2
          have hbs2 := d2.size
          clear hownA hsrc dx hbs b2 Sd Sk b1
          go_wp2_with (first | (at_builtin; refine wpList_appN numInt rfl _ _ rfl w.heap.size _ (T1 ++ [x]) rfl own2 _ D1 _ _ rfl hld.out Sd2 hb3.out (by decide) hbs2 ?_))
          intro v3 w3 own3 b3 _ _
          obtain ⟨a3, c3, rfl, s3⟩ := SrcN.own own3
          have d3 := d2.trans b3
          go_wp2_with fail
          go_ret
          rw [hP.out]
          exact ⟨a3, c3, rfl, own_cap own3, s3, d3, fun b off h => .inr (own_src own3 h)⟩
        · have hlk := hide (show k = (L.take k).length by rw [List.length_take]; omega)
          have hld := hide (show n - k = (L.drop k).length by rw [List.length_drop]; omega)
          have hb1 : Hid (([] : List Int).length + (L.take k).length ≤ 8589934593) := by show _ ≤ _; simp; omega
          have hb2 : Hid ((L.take k).length + [x].length ≤ 8589934593) := by show _ ≤ _; simp; omega
          have hb3 : Hid ((L.take k ++ [x]).length + (L.drop k).length ≤ 8589934593) := by show _ ≤ _; simp; omega
          have Sk : SrcN .i64 (some ⟨b, off, none⟩) (L.take k) c w := src_take S k
          have Sd : SrcN .i64 (some ⟨b, off + k, none⟩) (L.drop k) (c - k) w := src_drop S k
          have hm0 := ownN_nil 3 .i64 w.heap.size w
          have hkc : k < c := by omega
          clear hno S
          generalize L.take k = T1 at *
          generalize L.drop k = D1 at *
          go_wp2_with (first | (at_builtin; refine wpList_appN numInt rfl _ _ rfl w.heap.size _ [] rfl hm0 _ T1 k c rfl hlk.out Sk hb1.out (by decide) (Nat.le_refl _) ?_))
          intro v1 w1 own1 b1 _ _
          obtain ⟨a1, c1, rfl, _, _⟩ := ownN_row own1
          have bx : Below w1.heap.size w1 (w1.alloc (.cells #[.int .i64 x] 3)) := below_box (Below.refl _ _)
          have hownA := ownN_below own1 bx
          have hsrc := src1r w1 x 3
          have dx := b1.trans (bx.mono b1.size)
          have hbs := dx.size
          clear bx own1 hm0
          go_wp2_with (first | (at_builtin; refine wpList_appN numInt rfl _ _ rfl w.heap.size _ T1 rfl hownA _ [x] 1 1 rfl rfl hsrc hb2.out (by decide) hbs ?_))
          intro v2 w2 own2 b2 _ _
          obtain ⟨a2, c2, rfl, _, _⟩ := ownN_row own2
          have d2 := dx.trans b2
          have Sd2 := Sd.below d2
          have hbs2 := d2.size
          clear hownA hsrc dx hbs b2 Sd Sk b1
          go_wp2_with (first | (at_builtin; refine wpList_appN numInt rfl _ _ rfl w.heap.size _ (T1 ++ [x]) rfl own2 _ D1 _ _ rfl hld.out Sd2 hb3.out (by decide) hbs2 ?_))
          intro v3 w3 own3 b3 _ _
          obtain ⟨a3, c3, rfl, s3⟩ := SrcN.own own3
          have d3 := d2.trans b3
          go_wp2_with fail
          go_ret
          rw [hP.out]
          exact ⟨a3, c3, rfl, own_cap own3, s3, d3, fun b off h => .inr (own_src own3 h)⟩
end Go.Proofs.Ytflakkbodbnndaa
