/- noWays and linksBack of the program. -/
import Derived.Test.YtelehmkmdbhcfaaLnk9c
import Derived.Test.YtelehmkmdbhcfaaI9b
import Derived.Test.YtelehmkmdbhcfaaI9c
import Derived.Test.YtelehmkmdbhcfaaArr6
import Derived.Test.YtelehmkmdbhcfaaAll5
namespace Go.Proofs.Ytelehmkmdbhcfaa
open Go.RowKit
/-- The links that lead to p from speakers that were not met. -/
def bk9 (f0 f1 : Nat → Int) (p : Int) (s : Nat → Bool) (ks : List Nat) : List Nat := ks.filter fun i => decide (f1 i = p) && !s (f0 i).toNat
theorem bk9_no {f0 f1 : Nat → Int} {p : Int} {s : Nat → Bool} {ks : List Nat} {k : Nat} (hk : k < ks.length) (h : ¬ (f1 (ks.getD k 0) = p ∧ s (f0 (ks.getD k 0)).toNat = false)) : bk9 f0 f1 p s (ks.take (k + 1)) = bk9 f0 f1 p s (ks.take k) := by
  rw [List.getD_eq_getElem?_getD, List.getElem?_eq_getElem hk, Option.getD_some] at h
  unfold bk9
  rw [List.take_succ_eq_append_getElem hk, List.filter_append]
  have : (decide (f1 ks[k] = p) && !s (f0 ks[k]).toNat) = false := by
    by_cases e : f1 ks[k] = p
    · cases hs : s (f0 ks[k]).toNat
      · exact absurd ⟨e, hs⟩ h
      · simp
    · simp [e]
  simp [this]
theorem bk9_yes {f0 f1 : Nat → Int} {p : Int} {s : Nat → Bool} {ks : List Nat} {k : Nat} (hk : k < ks.length) (h : f1 (ks.getD k 0) = p ∧ s (f0 (ks.getD k 0)).toNat = false) : bk9 f0 f1 p s (ks.take (k + 1)) = bk9 f0 f1 p s (ks.take k) ++ [ks.getD k 0] := by
  have e : ks.getD k 0 = ks[k] := by rw [List.getD_eq_getElem?_getD, List.getElem?_eq_getElem hk, Option.getD_some]
  rw [e] at h ⊢
  unfold bk9
  rw [List.take_succ_eq_append_getElem hk, List.filter_append]
  simp [h.1, h.2]
theorem bk9_len (f0 f1 : Nat → Int) (p : Int) (s : Nat → Bool) (ks : List Nat) : (bk9 f0 f1 p s ks).length ≤ ks.length := List.length_filter_le _ _
set_option maxRecDepth 100000 in
set_option maxHeartbeats 800000 in
theorem i_noWays (g : Int) (a : Option Addr) (n c : Nat) (w : World) (hg : 2 ≤ g) (hg' : g ≤ 12) :
    Calls Try.prog 27 #[.agg #[.int .i64 g, .slice a n c]] w fun e w' => ∃ q, e = .returned (.slice (some ⟨q, 0, none⟩) 6 6) ∧ w.heap.size ≤ q ∧ OutInt q 6 6 (fun _ => g - 1) w' ∧ Below w.heap.size w w' := by
  have NW := hide (fun w => i_noWay g a n c w hg hg')
  have RP := hide (fun b cap x w => i_repeat b cap 6 x w (by omega) (by omega))
  have dX : Below w.heap.size w (w.alloc (.cells #[.int .i64 g, .slice a n c] 31)) := below_box (Below.refl _ _)
  go_enter Try.func27, Try.ntmps27
  go_wp2_with fail
  generalize w.alloc (.cells #[.int .i64 g, .slice a n c] 31) = wx at *
  refine (NW.out _).mono ?_
  rintro e w1 ⟨rfl, b1⟩
  have d1 := dX.trans (b1.mono dX.size)
  clear b1 dX NW
  go_wp2_with fail
  have d2 : Below w.heap.size w (w1.alloc (.cells #[.int .i64 (g - 1)] 3)) := d1.alloc d1.size _
  refine (RP.out _ _ (g - 1) _ (by simp) (by simp [go_sem])).mono ?_
  rintro e w3 ⟨q, rfl, hq, hO, b3⟩
  have d3 := d2.trans (b3.mono d2.size)
  go_wp2_with fail
  go_ret
  exact ⟨q, rfl, Nat.le_trans d2.size hq, hO, d3⟩
set_option maxRecDepth 100000 in
set_option maxHeartbeats 1600000 in
theorem i_linksBack (va : Option Addr) (vc : Nat) (ks : List Nat) (f0 f1 f2 : Nat → Int) (P : Nat → Nat) (p : Int) (s : Nat → Bool) (w : World) (hn : ks.length ≤ 20) (hF : ∀ i, i ∈ ks → 0 ≤ f0 i ∧ f0 i ≤ 5) (hR : LnkR va ks f0 f1 f2 P w) :
    Calls Try.prog 29 #[.agg #[.slice va ks.length vc], .int .i64 p, .agg (bits 6 s).toArray] w fun e w' => ∃ ba bc, e = .returned (.slice ba (bk9 f0 f1 p s ks).length bc) ∧ LnkR ba (bk9 f0 f1 p s ks) f0 f1 f2 P w' ∧ (bk9 f0 f1 p s ks ≠ [] → ∃ z, ba = some ⟨z, 0, none⟩ ∧ w.heap.size ≤ z) ∧ Below w.heap.size w w' := by
  have MB := Mut.new (w.alloc (.cells #[.slice va ks.length vc] 56)) (bits 6 s).toArray 59
  have dX : Below w.heap.size w ((w.alloc (.cells #[.slice va ks.length vc] 56)).alloc (.cells (bits 6 s).toArray 59)) := below_box2 (Below.refl _ _)
  have hnn : (ks.length : Int) ≤ 20 := by omega
  have hsz : w.heap.size + 2 ≤ ((w.alloc (.cells #[.slice va ks.length vc] 56)).alloc (.cells (bits 6 s).toArray 59)).heap.size := by simp
  have hbg : Hid (∀ q, q < 6 → (bits 6 s)[q]? = some (.bool (s q))) := fun q hq => bits_get hq
  simp only [World.size_alloc] at MB
  generalize hcs : bits 6 s = cs at *
  clear hcs
  generalize hkl : ks.length = n at *
  go_enter Try.func29, Try.ntmps29
  go_wp2_with fail
  generalize (w.alloc (.cells #[.slice va n vc] 56)).alloc (.cells cs.toArray 59) = wx at *
  generalize hbw9 : w.heap.size = b0 at *
  go_loopw [7, 13] (fun l y wr => ∃ k : Nat, y = .int .i64 k ∧ k ≤ n ∧ OwnW 65 3 (b0 + 2) l (bk9 f0 f1 p s (ks.take k)).length ((bk9 f0 f1 p s (ks.take k)).flatMap (lnkC f0 f1 f2 P)) wr ∧ Below b0 w wr ∧ Mut wr (b0 + 1) cs ∧ b0 + 2 ≤ wr.heap.size) (fun _ y _ => n - (intOf y).toNat)
  case atStart => exact ⟨0, rfl, Nat.zero_le _, ownW_nil _ _ _ _, dX, MB, hsz⟩
  case round =>
    clear MB dX hsz
    obtain ⟨k, rfl, hk, own, hb, MB, hsz⟩ := hrel
    by_cases hlt : k < n
    · obtain ⟨b, off, rfl, hbw, u0, u1, u2⟩ := hR k (by omega)
      rw [hbw9] at hbw
      replace u0 := (hb.cell (p := ⟨b, off + k * 3, none⟩) hbw).trans u0
      replace u1 := (hb.cell (p := ⟨b, off + k * 3 + 1, none⟩) hbw).trans u1
      replace u2 := (hb.cell (p := ⟨b, off + k * 3 + 2, none⟩) hbw).trans u2
      have hlt' : (k : Int) < (n : Int) := by omega
      have hNo := hide (bk9_no (f0 := f0) (f1 := f1) (p := p) (s := s) (ks := ks) (k := k) (by omega))
      have hYes := hide (bk9_yes (f0 := f0) (f1 := f1) (p := p) (s := s) (ks := ks) (k := k) (by omega))
      have hfi := hF (ks.getD k 0) (by rw [List.getD_eq_getElem?_getD, List.getElem?_eq_getElem (by omega)]; simp)
      have hl20 := hide (Nat.le_trans (bk9_len f0 f1 p s (ks.take k)) (List.length_take_le _ _))
      clear hR
      generalize ks.getD k 0 = i at *
      generalize hB : bk9 f0 f1 p s (ks.take k) = B at *
      have hlc : Hid (lnkC f0 f1 f2 P i = [.int .i64 (f0 i), .int .i64 (f1 i), .func (.func 56) #[] #[.pointer (some ⟨P (f2 i).toNat, 0, none⟩)]]) := rfl
      obtain ⟨q, hq⟩ : ∃ q : Nat, f0 i = q := ⟨(f0 i).toNat, by omega⟩
      have hq6 : q < 6 := by omega
      have hqi : (q : Int) < 6 := by omega
      rw [hq] at hNo hYes hlc u0
      rw [Int.toNat_natCast] at hNo hYes
      have hcell := hide (fun (w' : World) (M : Mut w' (b0 + 1) cs) => M.2.1 q _ (hbg.out q hq6))
      simp only [labV] at u2
      clear hfi hq hB hbg
      generalize f1 i = lt at *
      generalize P (f2 i).toNat = pk at *
      generalize s q = sq at *
      by_cases hp : lt = p
      · subst hp
        cases sq with
        | false =>
          have hY := hide (hYes.out ⟨rfl, rfl⟩)
          have hlen : Hid (B.length + 1 ≤ 8589934593) := by show _ ≤ _; have := hl20.out; omega
          have h1c : Hid (∀ u ∈ ([.int .i64 (q : Int), .int .i64 lt, .func (.func 56) #[] #[.pointer (some ⟨pk, 0, none⟩)]] : List Value), u.oneCell' = true) := fun u hu => by
            simp only [List.mem_cons, List.not_mem_nil, or_false] at hu
            rcases hu with rfl | rfl | rfl <;> rfl
          clear hNo hYes hl20
          go_wp2_with (first | (refine wpList_storeM rfl rfl rfl rfl (Mut.new _ _ _) rfl (by intro v hv; simp only [List.mem_cons, List.not_mem_nil, or_false] at hv; rcases hv with rfl | rfl | rfl <;> rfl) sizeLnk ?_; intro w2 hM hO; have v0 := hM.2.1 0 _ rfl; have v1 := hM.2.1 1 _ rfl; have v2 := hM.2.1 2 _ rfl; have d2 : Below wr.heap.size wr w2 := ((Below.refl wr.heap.size wr).alloc (Nat.le_refl _) _).trans (hO.below (by simp)); have MB2 := MB.below d2; have m0 := hcell.out _ MB2; have own2 := ownW_below own d2; have dA : Below w2.heap.size w2 (w2.alloc (.cells #[.int .i64 q, .int .i64 lt, .func (.func 56) #[] #[.pointer (some ⟨pk, 0, none⟩)]] 65)) := below_box (Below.refl _ _); have ownA := ownW_below own2 dA; have hbA : b0 + 2 ≤ (w2.alloc (.cells #[.int .i64 q, .int .i64 lt, .func (.func 56) #[] #[.pointer (some ⟨pk, 0, none⟩)]] 65)).heap.size := Nat.le_trans (Nat.le_trans hsz d2.size) dA.size; have RA := RowW.mut (Mut.new w2 #[.int .i64 q, .int .i64 lt, .func (.func 56) #[] #[.pointer (some ⟨pk, 0, none⟩)]] 65); clear own2) | (at_builtin; refine wpList_appW aggLnk rfl _ _ rfl (b0 + 2) _ B.length _ rfl ownA w2.heap.size 0 1 1 _ rfl rfl RA h1c.out hlen.out (by decide) hbA ?_; intro v9 w9 own9 b9 gr9 ob9))
          have MB9 := (MB2.below dA).base (by omega) b9
          have hb0 : b0 ≤ wr.heap.size := by omega
          have d9 := ((hb.trans (d2.mono hb0)).trans (dA.mono (Nat.le_trans hb0 d2.size))).trans (b9.mono (by omega))
          refine ⟨⟨k + 1, by go_num, by omega, ?_, d9, MB9, Nat.le_trans hbA b9.size⟩, by simp [intOf]; omega⟩
          rw [hY.out, List.length_append, List.flatMap_append]
          simpa [hlc.out] using own9
        | true =>
          have hN := hide (hNo.out (fun h => by simp at h))
          clear hNo hYes hl20
          go_wp2_with (first | (refine wpList_storeM rfl rfl rfl rfl (Mut.new _ _ _) rfl (by intro v hv; simp only [List.mem_cons, List.not_mem_nil, or_false] at hv; rcases hv with rfl | rfl | rfl <;> rfl) sizeLnk ?_; intro w2 hM hO; have v0 := hM.2.1 0 _ rfl; have v1 := hM.2.1 1 _ rfl; have v2 := hM.2.1 2 _ rfl; have d2 : Below wr.heap.size wr w2 := ((Below.refl wr.heap.size wr).alloc (Nat.le_refl _) _).trans (hO.below (by simp)); have MB2 := MB.below d2; have m0 := hcell.out _ MB2; have own2 := ownW_below own d2))
          have hb0 : b0 ≤ wr.heap.size := by omega
          refine ⟨⟨k + 1, by go_num, by omega, ?_, hb.trans (d2.mono hb0), MB2, Nat.le_trans hsz d2.size⟩, by simp [intOf]; omega⟩
          rw [hN.out]; exact own2
      · have hN := hide (hNo.out (fun h => hp h.1))
        clear hNo hYes hl20
        go_wp2_with (first | (refine wpList_storeM rfl rfl rfl rfl (Mut.new _ _ _) rfl (by intro v hv; simp only [List.mem_cons, List.not_mem_nil, or_false] at hv; rcases hv with rfl | rfl | rfl <;> rfl) sizeLnk ?_; intro w2 hM hO; have v0 := hM.2.1 0 _ rfl; have v1 := hM.2.1 1 _ rfl; have v2 := hM.2.1 2 _ rfl; have d2 : Below wr.heap.size wr w2 := ((Below.refl wr.heap.size wr).alloc (Nat.le_refl _) _).trans (hO.below (by simp)); have MB2 := MB.below d2; have m0 := hcell.out _ MB2; have own2 := ownW_below own d2))
        have hb0 : b0 ≤ wr.heap.size := by omega
        refine ⟨⟨k + 1, by go_num, by omega, ?_, hb.trans (d2.mono hb0), MB2, Nat.le_trans hsz d2.size⟩, by simp [intOf]; omega⟩
        rw [hN.out]; exact own2
    · have hlt' : ¬ (k : Int) < (n : Int) := by omega
      obtain rfl : k = n := by omega
      rw [List.take_of_length_le (by omega)] at own
      obtain ⟨ba, bc, rfl, hRW, hsh⟩ := ownW_row own
      clear hbg hF hR
      go_wp2_with fail
      go_ret
      refine ⟨ba, ⟨bc, rfl⟩, LnkR.of hRW, fun hne => ?_, hb⟩
      rcases hsh with ⟨_, _, h0⟩ | ⟨z, hz, h1, _⟩
      · exact absurd (List.length_eq_zero_iff.1 h0) hne
      · exact ⟨z, hz, by omega⟩
end Go.Proofs.Ytelehmkmdbhcfaa
