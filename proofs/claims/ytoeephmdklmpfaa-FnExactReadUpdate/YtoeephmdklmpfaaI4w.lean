/- An update's bytes: what the program's numbersBytes, nlriBytes, Grow and Concat answer. -/
import Derived.Test.YtoeephmdklmpfaaI4b
import Derived.Test.YtoeephmdklmpfaaS4x
import Derived.Lib.AppendZeros
namespace Go.Proofs.Ytoeephmdklmpfaa
open Go.RowKit

/-- A slice value whose bytes are L. -/
def HoldB (v : Value) (L : List Int) (w : World) : Prop := ∃ a cap, v = .slice a L.length cap ∧ SrcN .u8 a L cap w
theorem HoldB.below {v : Value} {L : List Int} {w w' : World} (h : HoldB v L w) (k : Below w.heap.size w w') : HoldB v L w' := by
  obtain ⟨a, cap, h1, h2⟩ := h
  exact ⟨a, cap, h1, h2.below k⟩
theorem HoldB.own {e : TypeId} {base : Nat} {v : Value} {L : List Int} {w : World} (h : OwnN e .u8 base v L w) : HoldB v L w := SrcN.own h
theorem i_numberH (n m : Int) (w : World) (h0 : 0 ≤ m) (h1 : m ≤ 4) :
    Calls Try.prog 124 #[.int .i64 n, .int .i64 m] w fun e w' => ∃ v, e = .returned v ∧ HoldB v (be n m.toNat) w' ∧ Below w.heap.size w w' := by
  obtain ⟨k, rfl⟩ := Int.eq_ofNat_of_zero_le h0
  refine (i_numberBytes n k w (by omega)).mono ?_
  rintro e w' ⟨rfl, hb, hB⟩
  refine ⟨_, rfl, ⟨_, _, by rw [Int.toNat_natCast, be_len], hB.rowN (be_len _ _) (fun i hi => be_at n hi), .inr ⟨_, _, rfl⟩⟩, hb⟩
set_option maxRecDepth 100000 in
set_option maxHeartbeats 1600000 in
theorem i_nlriB (a0 : Option Addr) (len cap : Nat) (f0 f1 : Nat → Int) (w : World) (hl : len ≤ 10) (hG : ∀ i, i < len → 0 ≤ f1 i ∧ f1 i ≤ 32) (hE : RowPrefix a0 len f0 f1 w) :
    Calls Try.prog 92 #[.slice a0 len cap] w fun e w' => ∃ v, e = .returned v ∧ OwnN 5 .u8 w.heap.size v (nlb len f0 f1) w' ∧ Below w.heap.size w w' := by
  have hw8 : IntKind.u8.wrap (len : Int) = (len : Int) := by rw [u8_wrap]; omega
  have hmade := ownN_made 5 .u8 w [(len : Int)] (by simp [maxLen])
  have d0 : Below w.heap.size w (w.alloc (.cells #[.int .u8 (len : Int)] 5)) := below_box (Below.refl _ _)
  have hbe : Hid (nlb len f0 f1 = [(len : Int)] ++ pbsTo f0 f1 len) := by
    show nlb len f0 f1 = [(len : Int)] ++ pbsTo f0 f1 len
    unfold nlb
    rw [be1, show (len : Int) % 256 = len by omega]
  go_enter Try.func92, Try.ntmps92
  go_wp2_with fail
  go_loopw [3, 5, 12] (fun t _ i wr => ∃ k : Nat, k ≤ len ∧ i = .int .i64 k ∧ OwnN 5 .u8 w.heap.size t ([(len : Int)] ++ pbsTo f0 f1 k) wr ∧ Below w.heap.size w wr) (fun _ _ i _ => len - (intOf i).toNat)
  case atStart => exact ⟨0, Nat.zero_le _, rfl, by simpa [pbsTo, ncells] using hmade, d0⟩
  case round =>
    clear hmade d0 hw8
    obtain ⟨k, hk, rfl, hown, hb⟩ := hrel
    by_cases hlt : k < len
    · obtain ⟨b, off, rfl, hbw, e0, e1⟩ := hE k hlt
      have e0 := (hb.cell (p := ⟨b, off + k * 2, none⟩) hbw).trans e0
      have e1 := (hb.cell (p := ⟨b, off + k * 2 + 1, none⟩) hbw).trans e1
      have hlt' : (k : Int) < (len : Int) := by omega
      obtain ⟨g0, g1⟩ := hG k hlt
      have s1 := hide (fun w => i_prefixB (f0 k) (f1 k) w g0 g1)
      have hLb : ([(len : Int)] ++ pbsTo f0 f1 k).length + (pbs (f0 k) (f1 k)).length ≤ 8589934593 := by
        rw [List.length_append, pbs_len]
        have := pbsTo_len (f0 := f0) (f1 := f1) (n := k) (fun i hi => hG i (by omega))
        have := need_le g0 g1
        simp
        omega
      have hL := hide hLb
      clear hLb
      have hS := hide (show [(len : Int)] ++ pbsTo f0 f1 (k + 1) = [(len : Int)] ++ pbsTo f0 f1 k ++ pbs (f0 k) (f1 k) by
        rw [show pbsTo f0 f1 (k + 1) = pbsTo f0 f1 k ++ pbs (f0 k) (f1 k) from rfl, List.append_assoc])
      clear g0 g1 hG
      generalize [(len : Int)] ++ pbsTo f0 f1 k = L at hL hS hown
      generalize pbs (f0 k) (f1 k) = P at hL hS s1
      generalize f0 k = a at *
      generalize f1 k = l at *
      go_wp2_with fail
      refine (s1.out _).mono ?_
      rintro e w2 ⟨v2, rfl, hown2, b2⟩
      obtain ⟨sa, scap, rfl, hsrc⟩ := SrcN.own hown2
      have hown := ownN_below hown (below_box b2)
      have hb2 := hb.trans ((below_box b2).mono hb.size)
      have hbs := hb2.size
      clear hown2 b2
      go_wp2_with (first | (at_builtin; refine wpList_appN numByte rfl _ _ rfl w.heap.size _ L rfl hown sa P P.length scap rfl rfl hsrc hL.out (by decide) hbs ?_))
      intro v3 w3 hown3 b3 _ _
      go_wp2_with fail
      exact ⟨⟨k + 1, by omega, by go_num, by rw [hS.out]; exact hown3, hb2.trans b3⟩, by simp [intOf]; omega⟩
    · have hk' : k = len := by omega
      subst hk'
      go_wp2_with fail
      refine bodyPost_ret (by simp [results, Try.results92, go_sem]; rfl) rfl ⟨_, rfl, by rw [hbe.out]; exact hown, hb⟩
set_option maxRecDepth 100000 in
set_option maxHeartbeats 1600000 in
theorem i_numbersB (a0 : Option Addr) (len cap : Nat) (f : Nat → Int) (m : Nat) (w : World) (hl : len ≤ 10) (hm : m ≤ 4) (hE : RowInt a0 len f w) :
    Calls Try.prog 125 #[.slice a0 len cap, .int .i64 m] w fun e w' => ∃ v, e = .returned v ∧ OwnN 5 .u8 w.heap.size v (nmb m len f) w' ∧ Below w.heap.size w w' := by
  have hw8 : IntKind.u8.wrap (len : Int) = (len : Int) := by rw [u8_wrap]; omega
  have hmade := ownN_made 5 .u8 w [(len : Int)] (by simp [maxLen])
  have d0 : Below w.heap.size w (w.alloc (.cells #[.int .u8 (len : Int)] 5)) := below_box (Below.refl _ _)
  have hbe : Hid (nmb m len f = [(len : Int)] ++ numTo m f len) := by
    show nmb m len f = [(len : Int)] ++ numTo m f len
    unfold nmb
    rw [be1, show (len : Int) % 256 = len by omega]
  go_enter Try.func125, Try.ntmps125
  go_wp2_with fail
  go_loopw [5, 7, 14] (fun t _ i wr => ∃ k : Nat, k ≤ len ∧ i = .int .i64 k ∧ OwnN 5 .u8 w.heap.size t ([(len : Int)] ++ numTo m f k) wr ∧ Below w.heap.size w wr) (fun _ _ i _ => len - (intOf i).toNat)
  case atStart => exact ⟨0, Nat.zero_le _, rfl, by simpa [numTo, ncells] using hmade, d0⟩
  case round =>
    clear hmade d0 hw8
    obtain ⟨k, hk, rfl, hown, hb⟩ := hrel
    by_cases hlt : k < len
    · obtain ⟨b, off, rfl, hbw, e0⟩ := hE k hlt
      have e0 := (hb.cell (p := ⟨b, off + k, none⟩) hbw).trans e0
      have hlt' : (k : Int) < (len : Int) := by omega
      have s1 := hide (fun w => i_numberBytes (f k) m w hm)
      have hLb : ([(len : Int)] ++ numTo m f k).length + (be (f k) m).length ≤ 8589934593 := by
        rw [List.length_append, numTo_len, be_len]
        have := Nat.mul_le_mul_right k hm
        simp
        omega
      have hL := hide hLb
      clear hLb
      have hS := hide (show [(len : Int)] ++ numTo m f (k + 1) = [(len : Int)] ++ numTo m f k ++ be (f k) m by
        rw [show numTo m f (k + 1) = numTo m f k ++ be (f k) m from rfl, List.append_assoc])
      have hrow := hide (fun (w : World) (c : Nat) (hB : Bts w c m (fun j => f k / 256 ^ (m - 1 - j) % 256)) => hB.rowN (be_len (f k) m) (fun i hi => be_at (f k) hi))
      have hlen := hide (be_len (f k) m)
      generalize [(len : Int)] ++ numTo m f k = L at hL hS hown
      generalize be (f k) m = P at hL hS hrow hlen
      go_wp2_with fail
      refine (s1.out _).mono ?_
      rintro e w2 ⟨rfl, b2, hB2⟩
      have hsrc : SrcN .u8 (some ⟨wr.heap.size, 0, none⟩) P m w2 := ⟨hrow.out _ _ hB2, .inr ⟨_, _, rfl⟩⟩
      have hown := ownN_below hown b2
      have hb2 := hb.trans (b2.mono hb.size)
      have hbs := hb2.size
      clear b2 hB2 hrow s1
      go_wp2_with (first | (at_builtin; refine wpList_appN numByte rfl _ _ rfl w.heap.size _ L rfl hown _ P m m rfl hlen.out.symm hsrc hL.out (by decide) hbs ?_))
      intro v3 w3 hown3 b3 _ _
      go_wp2_with fail
      exact ⟨⟨k + 1, by omega, by go_num, by rw [hS.out]; exact hown3, hb2.trans b3⟩, by simp [intOf]; omega⟩
    · have hk' : k = len := by omega
      subst hk'
      go_wp2_with fail
      refine bodyPost_ret (by simp [results, Try.results125, go_sem]; rfl) rfl ⟨_, rfl, by rw [hbe.out]; exact hown, hb⟩
theorem zero_cells_size (n : Nat) : (Builtin.zeroCells (Value.int .u8 0).cells n).size = n := by simp [Builtin.zeroCells, Value.cells]
set_option maxRecDepth 100000 in
set_option maxHeartbeats 1600000 in
theorem i_growB (n : Nat) (w : World) (h0 : 0 < n) (h1 : n ≤ 1048576) :
    Calls Try.prog 123 #[.slice none 0 0, .int .i64 n] w fun e w' => ∃ v, e = .returned v ∧ OwnN 5 .u8 w.heap.size v [] w' ∧ Below w.heap.size w w' := by
  have hinfo : (Try.prog.info? 5).map (fun i => (i.zero, i.size, i.bytes)) = some (some (.int .u8 0), 1, 1) := by kernel_rfl
  obtain ⟨i, hi, hzz⟩ := Option.map_eq_some_iff.1 hinfo
  simp only [Prod.mk.injEq] at hzz
  obtain ⟨hz, hsz, hby⟩ := hzz
  have hr := hide (fun (w : World) (ty : TypeId) => Lib.run_append_nil_zeros (P := Try.prog) w 72 3 ty 5 i (.int .u8 0) .i64 .i64 Try.underlying72 Try.underlying3 hi hz n h0 (by rw [hsz]; decide) (by omega) (by rw [hby]; omega))
  have hcap := hide (fun w : World => And.intro (grownCap_ge w n 0 5) (grownCap_le_maxLen w n 0 5 (by unfold maxLen; omega)))
  clear hi hz hsz hby hinfo
  have hpos : (n : Int) > 0 := by omega
  have hneg : ¬ ((n : Int) < 0) := by omega
  go_enter Try.func123, Try.ntmps123
  go_wp2_with (first | (at_builtin; refine Lib.wpList_append_run _ rfl _ _ _ _ rfl _ _ rfl rfl _ _ (hr.out _ _) ?_))
  obtain ⟨k1, k2⟩ := hcap.out w
  have hM : (Builtin.zeroCells #[Value.int .u8 0] n ++ Builtin.zeroCells #[Value.int .u8 0] (grownCap w n 0 5 - n)).size = grownCap w n 0 5 * 1 := by
    have e1 := zero_cells_size n
    have e2 := zero_cells_size (grownCap w n 0 5 - n)
    simp only [Value.cells] at e1 e2
    rw [Array.size_append, e1, e2]
    omega
  have hO : OwnN 5 .u8 w.heap.size (.slice (some ⟨w.heap.size, 0, none⟩) 0 (grownCap w n 0 5)) [] (w.alloc (.cells (Builtin.zeroCells #[Value.int .u8 0] n ++ Builtin.zeroCells #[Value.int .u8 0] (grownCap w n 0 5 - n)) 5)) :=
    World.ownsRow_made (e := 5) (size := 1) (base := w.heap.size) w _ _ (Nat.le_refl _) k2 hM
  exact bodyPost_ret (v := .slice (some ⟨w.heap.size, 0, none⟩) 0 (grownCap w n 0 5)) (by simp [results, Try.results123, go_sem]) rfl ⟨_, rfl, ownN_below hO (Below.refl _ _).drew, (below_box (Below.refl _ _)).drew⟩
/-- The first k lists, one behind the other. -/
def catTo (Ls : Nat → List Int) : Nat → List Int
  | 0 => []
  | k + 1 => catTo Ls k ++ Ls k
theorem catTo_le (Ls : Nat → List Int) {k n : Nat} (h : k ≤ n) : (catTo Ls k).length ≤ (catTo Ls n).length := by
  induction n with
  | zero => rw [Nat.le_zero.1 h]; exact Nat.le_refl _
  | succ n ih =>
    by_cases e : k = n + 1
    · rw [e]; exact Nat.le_refl _
    · have := ih (by omega)
      show _ ≤ (catTo Ls n ++ Ls n).length
      rw [List.length_append]
      omega
set_option maxRecDepth 100000 in
set_option maxHeartbeats 3200000 in
theorem i_concat (gb n c : Nat) (vs : Nat → Value) (Ls : Nat → List Int) (w : World) (hn : n ≤ 6) (hgb : gb < w.heap.size) (hc : ∀ i, i < n → w.cell? ⟨gb, i, none⟩ = some (vs i)) (hH : ∀ i, i < n → HoldB (vs i) (Ls i) w) (h0 : 0 < (catTo Ls n).length) (h1 : (catTo Ls n).length ≤ 1048576) :
    Calls Try.prog 93 #[.slice (some ⟨gb, 0, none⟩) n c] w fun e w' => ∃ v, e = .returned v ∧ OwnN 5 .u8 w.heap.size v (catTo Ls n) w' ∧ Below w.heap.size w w' := by
  have GR := hide (fun w => i_growB (catTo Ls n).length w h0 h1)
  have hcl := hide (fun k (h : k ≤ n) => catTo_le Ls h)
  have hh1 := hide h1
  clear h0 h1
  go_enter Try.func93, Try.ntmps93
  go_wp2_with fail
  go_loop [3, 5, 11] (fun s _ i => ∃ k : Nat, k ≤ n ∧ i = .int .i64 k ∧ s = .int .i64 ((catTo Ls k).length : Int)) (fun _ _ i => n - (intOf i).toNat)
  case atStart => exact ⟨0, Nat.zero_le _, rfl, rfl⟩
  case round =>
    obtain ⟨k, hk, rfl, rfl⟩ := hrel
    by_cases hlt : k < n
    · have hlt' : (k : Int) < (n : Int) := by omega
      have ec := hc k hlt
      obtain ⟨a, cp, hv, _⟩ := hH k hlt
      rw [hv] at ec
      have e1 : (catTo Ls (k + 1)).length = (catTo Ls k).length + (Ls k).length := List.length_append
      have e2 := hcl.out (k + 1) (by omega)
      have e3 := hh1.out
      have b1 : ¬ (((catTo Ls k).length : Int) + ((Ls k).length : Int) < 0) := by omega
      have b2 : ((catTo Ls k).length : Int) + ((Ls k).length : Int) ≤ 1048576 := by omega
      have hS := hide (show ((catTo Ls (k + 1)).length : Int) = ((catTo Ls k).length : Int) + ((Ls k).length : Int) by omega)
      clear hv hc hH GR e1 e2 e3
      generalize (catTo Ls k).length = x at *
      generalize (Ls k).length = y at *
      go_wp2_with fail
      exact ⟨⟨k + 1, by omega, by go_num, by rw [hS.out]⟩, by simp [intOf]; omega⟩
    · have hk' : k = n := by omega
      subst hk'
      clear hlt hk
      go_wp2_with fail
      refine (GR.out _).mono ?_
      rintro e w1 ⟨v1, rfl, hown1, b1⟩
      go_wp2_with fail
      go_loopw [6, 8, 27] (fun t _ i wr => ∃ q : Nat, q ≤ k ∧ i = .int .i64 q ∧ OwnN 5 .u8 w.heap.size t (catTo Ls q) wr ∧ Below w.heap.size w wr) (fun _ _ i _ => k - (intOf i).toNat)
      case atStart => exact ⟨0, Nat.zero_le _, rfl, hown1, b1⟩
      case round =>
        clear hown1 b1 GR
        obtain ⟨q, hq, rfl, hown, hb⟩ := hrel
        by_cases hlt : q < k
        · have hlt' : (q : Int) < (k : Int) := by omega
          have ec := (hb.cell (p := ⟨gb, q, none⟩) hgb).trans (hc q hlt)
          obtain ⟨a, cp, hv, hsrc⟩ := (hH q hlt).below hb
          rw [hv] at ec
          have hLb : (catTo Ls q).length + (Ls q).length ≤ 8589934593 := by
            have e1 : (catTo Ls (q + 1)).length = (catTo Ls q).length + (Ls q).length := List.length_append
            have e2 := hcl.out (q + 1) (by omega)
            have e3 := hh1.out
            omega
          have hL := hide hLb
          clear hLb
          have hS := hide (show catTo Ls (q + 1) = catTo Ls q ++ Ls q from rfl)
          have hbs := hb.size
          clear hv hc hH
          generalize catTo Ls q = L at hL hS hown
          generalize Ls q = P at hL hS hsrc ec
          go_wp2_with (first | (at_builtin; refine wpList_appN numByte rfl _ _ rfl w.heap.size _ L rfl hown a P P.length cp rfl rfl hsrc hL.out (by decide) hbs ?_))
          intro v3 w3 hown3 b3 _ _
          go_wp2_with fail
          exact ⟨⟨q + 1, by omega, by go_num, by rw [hS.out]; exact hown3, hb.trans b3⟩, by simp [intOf]; omega⟩
        · have hq' : q = k := by omega
          subst hq'
          go_wp2_with fail
          refine bodyPost_ret (by simp [results, Try.results93, go_sem]) rfl ⟨_, rfl, hown, hb⟩
end Go.Proofs.Ytoeephmdklmpfaa
