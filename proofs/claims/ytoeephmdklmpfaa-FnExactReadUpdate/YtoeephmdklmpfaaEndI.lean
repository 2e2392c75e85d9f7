/- What the program's ReadUpdate answers. -/
import Derived.Test.YtoeephmdklmpfaaPlain4r
import Derived.Test.YtoeephmdklmpfaaS4w
import Derived.Test.YtoeephmdklmpfaaAttrsI
import Derived.Test.YtoeephmdklmpfaaI4x
/- Plain: bytes that were read are the bytes of what was read. -/
namespace Go.Proofs.Ytoeephmdklmpfaa
open Go.RowKit

theorem be_val (n : Nat) : ∀ T : List Int, T.length = n → Bl T → be (val T) n = T := by
  induction n with
  | zero =>
    intro T h _
    rw [List.eq_nil_of_length_eq_zero h]
    rfl
  | succ n ih =>
    intro T h hB
    have hne : T ≠ [] := by
      intro e
      rw [e] at h
      simp at h
    obtain ⟨S, x, rfl⟩ : ∃ S x, T = S ++ [x] := ⟨T.dropLast, T.getLast hne, (List.dropLast_concat_getLast hne).symm⟩
    have hx := hB x (by simp)
    have hS := ih S (by simpa using h) (hB.sub fun y hy => by simp [hy])
    rw [val_snoc]
    unfold be
    rw [show (val S * 256 + x) / 256 = val S by omega, show (val S * 256 + x) % 256 = x by omega, hS]
theorem be_num {m : Nat} {D : List Int} (h : m ≤ D.length) (hB : Bl D) : be (val (D.take m)) m = D.take m := be_val m _ (by rw [List.length_take]; omega) (hB.take m)
theorem be_one {x : Int} (h0 : 0 ≤ x) (h1 : x < 256) : be x 1 = [x] := by
  show be (x / 256) 0 ++ [x % 256] = [x]
  rw [show x % 256 = x by omega]
  rfl
theorem numTo_read {m n : Nat} {D : List Int} {f : Nat → Int} (hB : Bl D) (hn : m * n ≤ D.length) (hf : ∀ i, i < n → f i = nsV m D i) : numTo m f n = D.take (m * n) := by
  induction n with
  | zero => simp [numTo]
  | succ n ih =>
    rw [Nat.mul_succ] at hn ⊢
    unfold numTo
    rw [ih (by omega) (fun i hi => hf i (by omega)), hf n (by omega)]
    unfold nsV
    rw [be_num (by rw [List.length_drop]; omega) (hB.drop _), List.take_add]
theorem pbs_read {R : List Int} (hB : Bl R) (hc : rdCode R = 0) : pbs (rdA R) (rdL R) ++ R.drop (rdN R) = R := by
  cases R with
  | nil => simp [rdCode] at hc
  | cons l D =>
    have hl := hB l (by simp)
    have hD : Bl D := hB.sub fun x hx => List.mem_cons_of_mem _ hx
    have h1 : ¬ l > 32 := by
      intro q
      simp [rdCode, q] at hc
    have h2 : ¬ D.length < need l := by
      intro q
      simp [rdCode, h1, q] at hc
    show (be l 1 ++ be (val (D.take (need l)) * 2 ^ (32 - 8 * need l) / 2 ^ (32 - 8 * need l)) (need l)) ++ (l :: D).drop (1 + need l) = l :: D
    have hp : (2 : Int) ^ (32 - 8 * need l) ≠ 0 := Int.ne_of_gt (Int.pow_pos (by decide))
    rw [Int.mul_ediv_cancel _ hp, be_num (by omega) hD, be_one hl.1 hl.2, Nat.add_comm 1, List.drop_succ_cons]
    simp
theorem pbsTo_read {n : Nat} {D : List Int} {f0 f1 : Nat → Int} (hB : Bl D) (hc : prC0 D n = 0) (h0 : ∀ i, i < n → f0 i = rdA (prR D i)) (h1 : ∀ i, i < n → f1 i = rdL (prR D i)) : pbsTo f0 f1 n ++ prR D n = D := by
  induction n with
  | zero => simp [pbsTo, prR]
  | succ n ih =>
    have hn : prC0 D n = 0 := Classical.byContradiction fun q => q ((prC0_stay q (Nat.le_succ n)).symm.trans hc)
    have e1 := prC0_next hn
    have e2 := ih hn (fun i hi => h0 i (by omega)) (fun i hi => h1 i (by omega))
    have e3 := pbs_read (prR_bl hB n) (e1.symm.trans hc)
    unfold pbsTo
    rw [h0 n (by omega), h1 n (by omega), List.append_assoc]
    show pbsTo f0 f1 n ++ (pbs (rdA (prR D n)) (rdL (prR D n)) ++ (prR D n).drop (rdN (prR D n))) = D
    rw [e3, e2]
theorem sN_zero {m : Nat} {s : Lc} (h : (sN m s).2 = 0) : s.2 = 0 ∧ m ≤ s.1.length := by
  have h0 : s.2 = 0 := Classical.byContradiction fun q => q ((sN_bad q).symm.trans h)
  refine ⟨h0, Classical.byContradiction fun q => ?_⟩
  unfold sN stC at h
  dsimp only at h
  rw [if_neg (by simpa using h0), if_neg q] at h
  exact absurd h (by decide)
/-- A number that was read, and what is left. -/
theorem sN_read {m : Nat} {s : Lc} (hB : Bl s.1) (h : (sN m s).2 = 0) : be (vN m s.1 s.2) m ++ (sN m s).1 = s.1 := by
  obtain ⟨h0, h1⟩ := sN_zero h
  unfold sN vN stL
  dsimp only
  rw [if_pos ⟨h0, h1⟩, if_pos ⟨h0, h1⟩, be_num h1 hB, List.take_append_drop]
theorem sMn_cast {s : Lc} (hB : Bl s.1) : ((sMn s : Nat) : Int) = vN 1 s.1 s.2 := Int.toNat_of_nonneg (vN1_bd hB).1
theorem sM_read {m : Nat} {s : Lc} {f : Nat → Int} (hB : Bl s.1) (h : (sM m s).2 = 0) (hf : ∀ i, i < sMn s → f i = nsV m (sN 1 s).1 i) : nmb m (sMn s) f ++ (sM m s).1 = s.1 := by
  have h1 : (sN 1 s).2 = 0 := Classical.byContradiction fun q => q ((nsC_bad q).symm.trans h)
  have h2 : m * sMn s ≤ (sN 1 s).1.length := by
    apply Classical.byContradiction
    intro q
    have e : (sM m s).2 = nsC m (sMn s) (sN 1 s).1 (sN 1 s).2 := rfl
    rw [h1, nsC_no (by omega)] at e
    rw [e] at h
    exact absurd h (by decide)
  unfold nmb
  rw [numTo_read (sN_bl hB) h2 hf, sMn_cast hB]
  show be (vN 1 s.1 s.2) 1 ++ (sN 1 s).1.take (m * sMn s) ++ (sN 1 s).1.drop (m * sMn s) = s.1
  rw [List.append_assoc, List.take_append_drop, sN_read hB h1]
theorem sP_read {s : Lc} {f0 f1 : Nat → Int} (hB : Bl s.1) (h : (sP s).2 = 0) (h0 : ∀ i, i < sMn s → f0 i = rdA (prR (sN 1 s).1 i)) (h1 : ∀ i, i < sMn s → f1 i = rdL (prR (sN 1 s).1 i)) : nlb (sMn s) f0 f1 ++ (sP s).1 = s.1 := by
  have hk : (sN 1 s).2 = 0 := Classical.byContradiction fun q => q ((prC_bad q).symm.trans h)
  have hc : prC0 (sN 1 s).1 (sMn s) = 0 := by
    have e : (sP s).2 = prC (sMn s) (sN 1 s).1 (sN 1 s).2 := rfl
    rw [hk, prC_ok] at e
    exact e.symm.trans h
  unfold nlb
  rw [sMn_cast hB]
  show be (vN 1 s.1 s.2) 1 ++ pbsTo f0 f1 (sMn s) ++ prR (sN 1 s).1 (sMn s) = s.1
  rw [List.append_assoc, pbsTo_read (sN_bl hB) hc h0 h1, sN_read hB hk]
/-- Attrs that were read, and what is left. -/
theorem sA_read {s : Lc} {f g : Nat → Int} (hB : Bl s.1) (h : (sA5 s).2 = 0) (hf : ∀ i, i < sMn (sA0 s) → f i = nsV 2 (sN 1 (sA0 s)).1 i) (hg : ∀ i, i < sMn (sA4 s) → g i = nsV 3 (sN 1 (sA4 s)).1 i) :
    atb (vN 1 s.1 s.2) (vN 4 (sA1 s).1 (sA1 s).2) (vN 3 (sA2 s).1 (sA2 s).2) (vN 3 (sA3 s).1 (sA3 s).2) (sMn (sA0 s)) f (sMn (sA4 s)) g ++ (sA5 s).1 = s.1 := by
  have k4 : (sA4 s).2 = 0 := Classical.byContradiction fun q => q ((sM_bad q).symm.trans h)
  have k3 := (sN_zero k4).1
  have k2 := (sN_zero k3).1
  have k1 := (sN_zero k2).1
  have k0 : (sA0 s).2 = 0 := Classical.byContradiction fun q => q ((sM_bad q).symm.trans k1)
  have e0 := sN_read (m := 1) hB k0
  have e1 := sM_read (m := 2) (sA0_bl hB) k1 hf
  have e2 := sN_read (m := 4) (sA1_bl hB) k2
  have e3 := sN_read (m := 3) (sA2_bl hB) k3
  have e4 := sN_read (m := 3) (sA3_bl hB) k4
  have e5 := sM_read (m := 3) (sA4_bl hB) h hg
  unfold atb
  simp only [List.append_assoc]
  rw [show (sA5 s).1 = (sM 3 (sA4 s)).1 from rfl, e5]
  rw [show (sA4 s).1 = (sN 3 (sA3 s)).1 from rfl, e4]
  rw [show (sA3 s).1 = (sN 3 (sA2 s)).1 from rfl, e3]
  rw [show (sA2 s).1 = (sN 4 (sA1 s)).1 from rfl, e2]
  rw [show (sA1 s).1 = (sM 2 (sA0 s)).1 from rfl, e1]
  exact e0
end Go.Proofs.Ytoeephmdklmpfaa

namespace Go.Proofs.Ytoeephmdklmpfaa
open Go.RowKit

theorem only_low {c base : Nat} {w w' : World} (h : Only c w w') (hc : base ≤ c) (hb : base ≤ w.heap.size) : Below base w w' := ⟨h.1, h.2.1, h.2.2.1, h.2.2.2.1, fun k hk => h.2.2.2.2 k (by omega) (by omega)⟩
theorem Own4.base {base base' : Nat} {x0 : Value} {Y0 : List Pf} {x1 : Value} {Y1 : List Int} {x5 : Value} {Y5 : List Int} {x7 : Value} {Y7 : List Pf} {w : World} (h : Own4 base x0 Y0 x1 Y1 x5 Y5 x7 Y7 w) (hb : base' ≤ base) : Own4 base' x0 Y0 x1 Y1 x5 Y5 x7 Y7 w := by
  obtain ⟨M1, M2, M3, q0, q1, q2, q3, l1, l2, l3, k⟩ := h
  exact ⟨M1, M2, M3, ownP_base q0 hb, q1, q2, q3, by omega, l2, l3, k⟩
theorem Own4.below {base : Nat} {x0 : Value} {Y0 : List Pf} {x1 : Value} {Y1 : List Int} {x5 : Value} {Y5 : List Int} {x7 : Value} {Y7 : List Pf} {w w' : World} (h : Own4 base x0 Y0 x1 Y1 x5 Y5 x7 Y7 w) (hb : Below w.heap.size w w') : Own4 base x0 Y0 x1 Y1 x5 Y5 x7 Y7 w' := by
  obtain ⟨M1, M2, M3, q0, q1, q2, q3, k⟩ := h
  exact ⟨M1, M2, M3, ownP_below q0 hb, ownN_below q1 hb, ownN_below q2 hb, ownP_below q3 hb, k⟩
theorem Own4.set {base : Nat} {x0 : Value} {Y0 : List Pf} {x1 : Value} {Y1 : List Int} {x5 : Value} {Y5 : List Int} {x7 : Value} {Y7 : List Pf} {w : World} (h : Own4 base x0 Y0 x1 Y1 x5 Y5 x7 Y7 w) {x : Nat} (hx : x < base) (i : Nat) (v : Value) : Own4 base x0 Y0 x1 Y1 x5 Y5 x7 Y7 (w.setCell ⟨x, i, none⟩ v) := by
  obtain ⟨M1, M2, M3, q0, q1, q2, q3, l1, l2, l3, k⟩ := h
  exact ⟨M1, M2, M3, ownP_set q0 hx i v, ownN_set q1 (by omega) i v, ownN_set q2 (by omega) i v, ownP_set q3 (by omega) i v, l1, l2, l3, k⟩
def ruNo (k : Int) : Value := .tuple #[.agg #[.slice none 0 0, .int .i64 0, .slice none 0 0, .int .i64 0, .int .i64 0, .int .i64 0, .slice none 0 0, .slice none 0 0], .int .i64 k, .bool false]
set_option maxRecDepth 100000 in
set_option maxHeartbeats 3200000 in
theorem i_ru_out (s : ByteArray) (w : World) (hs : s.size ≤ maxLen) (h : 1000 < s.size) :
    Calls Try.prog 16 #[.string s] w fun e w' => e = .returned (ruNo 0) ∧ Below w.heap.size w w' := by
  unfold maxLen at hs
  have h1' : ((s.size : Int) > 1000) := by omega
  clear h
  go_enter Try.func16, Try.ntmps16
  go_wp2_with fail
  exact bodyPost_ret (v := ruNo 0) (by simp [ruNo, results, Try.results16, go_sem]) rfl ⟨rfl, below_box (Below.refl _ _)⟩
set_option maxRecDepth 100000 in
set_option maxHeartbeats 3200000 in
theorem i_ru_bad (s : ByteArray) (k : Int) (w : World) (hs : s.size ≤ 1000) (hk : k ≠ 0)
    (PR : Hid (∀ b g w, g < b → Fr w b g (sbs s) 0 → Calls Try.prog 67 #[.pointer (some ⟨b, 0, none⟩)] w fun e w' => ∃ p0 m0 n0 a0 p1 m1 n1 a2 a3 a4 p5 m5 n5 p7 m7 n7 L, e = .returned (.agg #[.slice p0 m0 n0, .int .i64 a0, .slice p1 m1 n1, .int .i64 a2, .int .i64 a3, .int .i64 a4, .slice p5 m5 n5, .slice p7 m7 n7]) ∧ Only b w w' ∧ Fr w' b g L k)) :
    Calls Try.prog 16 #[.string s] w fun e w' => e = .returned (ruNo k) ∧ Below w.heap.size w w' := by
  have h1' : ¬ ((s.size : Int) > 1000) := by omega
  have hcv := fun (w : World) (t : ByteArray) => run_bytes_of_string (P := Try.prog) w 9 72 5 t Try.underlying9 Try.underlying72 Try.underlying5
  have FS := front_start (w.alloc (.cells #[.slice none 0 0, .int .i64 0, .slice none 0 0, .int .i64 0, .int .i64 0, .int .i64 0, .slice none 0 0, .slice none 0 0] 27)) s s.size (grownCap (w.alloc (.cells #[.slice none 0 0, .int .i64 0, .slice none 0 0, .int .i64 0, .int .i64 0, .int .i64 0, .slice none 0 0, .slice none 0 0] 27)) s.size 0 5) 5 90 ((bytesRow s (grownCap (w.alloc (.cells #[.slice none 0 0, .int .i64 0, .slice none 0 0, .int .i64 0, .int .i64 0, .int .i64 0, .slice none 0 0, .slice none 0 0] 27)) s.size 0 5)).size, (bytesRow s (grownCap (w.alloc (.cells #[.slice none 0 0, .int .i64 0, .slice none 0 0, .int .i64 0, .int .i64 0, .int .i64 0, .slice none 0 0, .slice none 0 0] 27)) s.size 0 5)).size + 1) rfl (grownCap_ge _ _ _ _) (grownCap_le_maxLen _ _ _ _ (by unfold maxLen; omega))
  simp only [World.size_alloc] at FS
  have F0 : Fr ((((w.alloc (.cells #[.slice none 0 0, .int .i64 0, .slice none 0 0, .int .i64 0, .int .i64 0, .int .i64 0, .slice none 0 0, .slice none 0 0] 27)).alloc (.cells (bytesRow s (grownCap (w.alloc (.cells #[.slice none 0 0, .int .i64 0, .slice none 0 0, .int .i64 0, .int .i64 0, .int .i64 0, .slice none 0 0, .slice none 0 0] 27)) s.size 0 5)) 5 ((bytesRow s (grownCap (w.alloc (.cells #[.slice none 0 0, .int .i64 0, .slice none 0 0, .int .i64 0, .int .i64 0, .int .i64 0, .slice none 0 0, .slice none 0 0] 27)) s.size 0 5)).size, (bytesRow s (grownCap (w.alloc (.cells #[.slice none 0 0, .int .i64 0, .slice none 0 0, .int .i64 0, .int .i64 0, .int .i64 0, .slice none 0 0, .slice none 0 0] 27)) s.size 0 5)).size + 1))).alloc (.cells #[.slice (some ⟨w.heap.size + 1, 0, none⟩) s.size (grownCap (w.alloc (.cells #[.slice none 0 0, .int .i64 0, .slice none 0 0, .int .i64 0, .int .i64 0, .int .i64 0, .slice none 0 0, .slice none 0 0] 27)) s.size 0 5), .int .i64 0] 90)).drew) (w.heap.size + 1 + 1) (w.heap.size + 1) (sbs s) 0 := ⟨sbs s, FS, sbs_byte s, fun _ => rfl⟩
  have X : Mut ((((w.alloc (.cells #[.slice none 0 0, .int .i64 0, .slice none 0 0, .int .i64 0, .int .i64 0, .int .i64 0, .slice none 0 0, .slice none 0 0] 27)).alloc (.cells (bytesRow s (grownCap (w.alloc (.cells #[.slice none 0 0, .int .i64 0, .slice none 0 0, .int .i64 0, .int .i64 0, .int .i64 0, .slice none 0 0, .slice none 0 0] 27)) s.size 0 5)) 5 ((bytesRow s (grownCap (w.alloc (.cells #[.slice none 0 0, .int .i64 0, .slice none 0 0, .int .i64 0, .int .i64 0, .int .i64 0, .slice none 0 0, .slice none 0 0] 27)) s.size 0 5)).size, (bytesRow s (grownCap (w.alloc (.cells #[.slice none 0 0, .int .i64 0, .slice none 0 0, .int .i64 0, .int .i64 0, .int .i64 0, .slice none 0 0, .slice none 0 0] 27)) s.size 0 5)).size + 1))).alloc (.cells #[.slice (some ⟨w.heap.size + 1, 0, none⟩) s.size (grownCap (w.alloc (.cells #[.slice none 0 0, .int .i64 0, .slice none 0 0, .int .i64 0, .int .i64 0, .int .i64 0, .slice none 0 0, .slice none 0 0] 27)) s.size 0 5), .int .i64 0] 90)).drew) w.heap.size [.slice none 0 0, .int .i64 0, .slice none 0 0, .int .i64 0, .int .i64 0, .int .i64 0, .slice none 0 0, .slice none 0 0] := (((Mut.new w #[.slice none 0 0, .int .i64 0, .slice none 0 0, .int .i64 0, .int .i64 0, .int .i64 0, .slice none 0 0, .slice none 0 0] 27).alloc _).alloc _).drew
  have d : Below w.heap.size w ((((w.alloc (.cells #[.slice none 0 0, .int .i64 0, .slice none 0 0, .int .i64 0, .int .i64 0, .int .i64 0, .slice none 0 0, .slice none 0 0] 27)).alloc (.cells (bytesRow s (grownCap (w.alloc (.cells #[.slice none 0 0, .int .i64 0, .slice none 0 0, .int .i64 0, .int .i64 0, .int .i64 0, .slice none 0 0, .slice none 0 0] 27)) s.size 0 5)) 5 ((bytesRow s (grownCap (w.alloc (.cells #[.slice none 0 0, .int .i64 0, .slice none 0 0, .int .i64 0, .int .i64 0, .int .i64 0, .slice none 0 0, .slice none 0 0] 27)) s.size 0 5)).size, (bytesRow s (grownCap (w.alloc (.cells #[.slice none 0 0, .int .i64 0, .slice none 0 0, .int .i64 0, .int .i64 0, .int .i64 0, .slice none 0 0, .slice none 0 0] 27)) s.size 0 5)).size + 1))).alloc (.cells #[.slice (some ⟨w.heap.size + 1, 0, none⟩) s.size (grownCap (w.alloc (.cells #[.slice none 0 0, .int .i64 0, .slice none 0 0, .int .i64 0, .int .i64 0, .int .i64 0, .slice none 0 0, .slice none 0 0] 27)) s.size 0 5), .int .i64 0] 90)).drew) := (below_box3 (Below.refl _ _)).drew
  clear FS
  go_enter Try.func16, Try.ntmps16
  go_wp2_with fail
  have hu : w.heap.size + 3 ≤ ((((w.alloc (.cells #[.slice none 0 0, .int .i64 0, .slice none 0 0, .int .i64 0, .int .i64 0, .int .i64 0, .slice none 0 0, .slice none 0 0] 27)).alloc (.cells (bytesRow s (grownCap (w.alloc (.cells #[.slice none 0 0, .int .i64 0, .slice none 0 0, .int .i64 0, .int .i64 0, .int .i64 0, .slice none 0 0, .slice none 0 0] 27)) s.size 0 5)) 5 ((bytesRow s (grownCap (w.alloc (.cells #[.slice none 0 0, .int .i64 0, .slice none 0 0, .int .i64 0, .int .i64 0, .int .i64 0, .slice none 0 0, .slice none 0 0] 27)) s.size 0 5)).size, (bytesRow s (grownCap (w.alloc (.cells #[.slice none 0 0, .int .i64 0, .slice none 0 0, .int .i64 0, .int .i64 0, .int .i64 0, .slice none 0 0, .slice none 0 0] 27)) s.size 0 5)).size + 1))).alloc (.cells #[.slice (some ⟨w.heap.size + 1, 0, none⟩) s.size (grownCap (w.alloc (.cells #[.slice none 0 0, .int .i64 0, .slice none 0 0, .int .i64 0, .int .i64 0, .int .i64 0, .slice none 0 0, .slice none 0 0] 27)) s.size 0 5), .int .i64 0] 90)).drew).heap.size := by simp [World.drew]
  generalize (((w.alloc (.cells #[.slice none 0 0, .int .i64 0, .slice none 0 0, .int .i64 0, .int .i64 0, .int .i64 0, .slice none 0 0, .slice none 0 0] 27)).alloc (.cells (bytesRow s (grownCap (w.alloc (.cells #[.slice none 0 0, .int .i64 0, .slice none 0 0, .int .i64 0, .int .i64 0, .int .i64 0, .slice none 0 0, .slice none 0 0] 27)) s.size 0 5)) 5 ((bytesRow s (grownCap (w.alloc (.cells #[.slice none 0 0, .int .i64 0, .slice none 0 0, .int .i64 0, .int .i64 0, .int .i64 0, .slice none 0 0, .slice none 0 0] 27)) s.size 0 5)).size, (bytesRow s (grownCap (w.alloc (.cells #[.slice none 0 0, .int .i64 0, .slice none 0 0, .int .i64 0, .int .i64 0, .int .i64 0, .slice none 0 0, .slice none 0 0] 27)) s.size 0 5)).size + 1))).alloc (.cells #[.slice (some ⟨w.heap.size + 1, 0, none⟩) s.size (grownCap (w.alloc (.cells #[.slice none 0 0, .int .i64 0, .slice none 0 0, .int .i64 0, .int .i64 0, .int .i64 0, .slice none 0 0, .slice none 0 0] 27)) s.size 0 5), .int .i64 0] 90)).drew = u at *
  clear hcv
  generalize (grownCap (w.alloc (.cells #[.slice none 0 0, .int .i64 0, .slice none 0 0, .int .i64 0, .int .i64 0, .int .i64 0, .slice none 0 0, .slice none 0 0] 27)) s.size 0 5) = cap0 at *
  generalize hr : w.heap.size = r at *
  have hr2 : w.heap.size ≤ r := Nat.le_of_eq hr
  have hr3 : r ≤ w.heap.size := Nat.le_of_eq hr.symm
  clear hr
  refine (PR.out _ _ _ (by omega) F0).mono ?_
  rintro e w2 ⟨p0, m0, n0, a0, p1, m1, n1, a2, a3, a4, p5, m5, n5, p7, m7, n7, L, rfl, o, R⟩
  have X := X.only o (by omega)
  have d2 := d.trans (only_low o (show r ≤ r + 1 + 1 by omega) (by omega))
  obtain ⟨L', ⟨f0, cp, Mb, Fr3, Fr4⟩, hB, hL⟩ := R
  clear hL Fr3 Fr4 hB o d
  have Mb := Mb.alloc (.cells #[.slice p0 m0 n0, .int .i64 a0, .slice p1 m1 n1, .int .i64 a2, .int .i64 a3, .int .i64 a4, .slice p5 m5 n5, .slice p7 m7 n7] 27)
  have X := X.alloc (.cells #[.slice p0 m0 n0, .int .i64 a0, .slice p1 m1 n1, .int .i64 a2, .int .i64 a3, .int .i64 a4, .slice p5 m5 n5, .slice p7 m7 n7] 27)
  have d3 : Below r w (w2.alloc (.cells #[.slice p0 m0 n0, .int .i64 a0, .slice p1 m1 n1, .int .i64 a2, .int .i64 a3, .int .i64 a4, .slice p5 m5 n5, .slice p7 m7 n7] 27)) := d2.trans ((below_box (Below.refl _ _)).mono (by have := d2.size; omega))
  have b1 := Mb.2.1 1 _ rfl
  have h0 := X.2.1 0 _ rfl
  have g0 := X.2.2 0 (by simp)
  have h1 := X.2.1 1 _ rfl
  have g1 := X.2.2 1 (by simp)
  have h2 := X.2.1 2 _ rfl
  have g2 := X.2.2 2 (by simp)
  have h3 := X.2.1 3 _ rfl
  have g3 := X.2.2 3 (by simp)
  have h4 := X.2.1 4 _ rfl
  have g4 := X.2.2 4 (by simp)
  have h5 := X.2.1 5 _ rfl
  have g5 := X.2.2 5 (by simp)
  have h6 := X.2.1 6 _ rfl
  have g6 := X.2.2 6 (by simp)
  have h7 := X.2.1 7 _ rfl
  have g7 := X.2.2 7 (by simp)
  have hk' : (k != 0) = true := by simpa using hk
  clear hk Mb
  go_wp2_with fail
  generalize w2.alloc (.cells #[.slice p0 m0 n0, .int .i64 a0, .slice p1 m1 n1, .int .i64 a2, .int .i64 a3, .int .i64 a4, .slice p5 m5 n5, .slice p7 m7 n7] 27) = u2 at *
  go_region
  go_wp2_with fail
  refine bodyPost_ret (v := ruNo k) (by simp [ruNo, results, Try.results16, go_sem, h0, h1, h2, h3, h4, h5, h6, h7]) rfl ⟨rfl, ?_⟩
  refine Below.drew ?_
  have d4 := d3.mono hr2
  refine Below.setCell (Below.setCell (Below.setCell (Below.setCell (Below.setCell (Below.setCell (Below.setCell (Below.setCell d4 ?_ _) ?_ _) ?_ _) ?_ _) ?_ _) ?_ _) ?_ _) ?_ _ <;> exact hr2
set_option maxRecDepth 100000 in
set_option maxHeartbeats 3200000 in
theorem i_ru_three (s : ByteArray) (V0 : List Pf) (v0 : Int) (V1 : List Int) (v2 v3 v4 : Int) (V5 : List Int) (V7 : List Pf) (t : ByteArray) (ok : Bool) (w : World) (hs : s.size ≤ 1000) (hn : ok = false ∨ (t.toList == s.toList) = false)
    (PR : Hid (∀ b g w, g < b → Fr w b g (sbs s) 0 → Calls Try.prog 67 #[.pointer (some ⟨b, 0, none⟩)] w fun e w' => ∃ p0 n0 p1 n1 p5 n5 p7 n7 L, e = .returned (.agg #[.slice p0 V0.length n0, .int .i64 v0, .slice p1 V1.length n1, .int .i64 v2, .int .i64 v3, .int .i64 v4, .slice p5 V5.length n5, .slice p7 V7.length n7]) ∧ Own4 w.heap.size (.slice p0 V0.length n0) V0 (.slice p1 V1.length n1) V1 (.slice p5 V5.length n5) V5 (.slice p7 V7.length n7) V7 w' ∧ Only b w w' ∧ Fr w' b g L 0))
    (UB : Hid (∀ p0 n0 p1 n1 p5 n5 p7 n7 base w, Own4 base (.slice p0 V0.length n0) V0 (.slice p1 V1.length n1) V1 (.slice p5 V5.length n5) V5 (.slice p7 V7.length n7) V7 w → Calls Try.prog 58 #[.agg #[.slice p0 V0.length n0, .int .i64 v0, .slice p1 V1.length n1, .int .i64 v2, .int .i64 v3, .int .i64 v4, .slice p5 V5.length n5, .slice p7 V7.length n7]] w fun e w' => e = .returned (.tuple #[.string t, .bool ok]) ∧ Below w.heap.size w w')) :
    Calls Try.prog 16 #[.string s] w fun e w' => e = .returned (ruNo 3) ∧ Below w.heap.size w w' := by
  have h1' : ¬ ((s.size : Int) > 1000) := by omega
  have hcv := fun (w : World) (t : ByteArray) => run_bytes_of_string (P := Try.prog) w 9 72 5 t Try.underlying9 Try.underlying72 Try.underlying5
  have FS := front_start (w.alloc (.cells #[.slice none 0 0, .int .i64 0, .slice none 0 0, .int .i64 0, .int .i64 0, .int .i64 0, .slice none 0 0, .slice none 0 0] 27)) s s.size (grownCap (w.alloc (.cells #[.slice none 0 0, .int .i64 0, .slice none 0 0, .int .i64 0, .int .i64 0, .int .i64 0, .slice none 0 0, .slice none 0 0] 27)) s.size 0 5) 5 90 ((bytesRow s (grownCap (w.alloc (.cells #[.slice none 0 0, .int .i64 0, .slice none 0 0, .int .i64 0, .int .i64 0, .int .i64 0, .slice none 0 0, .slice none 0 0] 27)) s.size 0 5)).size, (bytesRow s (grownCap (w.alloc (.cells #[.slice none 0 0, .int .i64 0, .slice none 0 0, .int .i64 0, .int .i64 0, .int .i64 0, .slice none 0 0, .slice none 0 0] 27)) s.size 0 5)).size + 1) rfl (grownCap_ge _ _ _ _) (grownCap_le_maxLen _ _ _ _ (by unfold maxLen; omega))
  simp only [World.size_alloc] at FS
  have F0 : Fr ((((w.alloc (.cells #[.slice none 0 0, .int .i64 0, .slice none 0 0, .int .i64 0, .int .i64 0, .int .i64 0, .slice none 0 0, .slice none 0 0] 27)).alloc (.cells (bytesRow s (grownCap (w.alloc (.cells #[.slice none 0 0, .int .i64 0, .slice none 0 0, .int .i64 0, .int .i64 0, .int .i64 0, .slice none 0 0, .slice none 0 0] 27)) s.size 0 5)) 5 ((bytesRow s (grownCap (w.alloc (.cells #[.slice none 0 0, .int .i64 0, .slice none 0 0, .int .i64 0, .int .i64 0, .int .i64 0, .slice none 0 0, .slice none 0 0] 27)) s.size 0 5)).size, (bytesRow s (grownCap (w.alloc (.cells #[.slice none 0 0, .int .i64 0, .slice none 0 0, .int .i64 0, .int .i64 0, .int .i64 0, .slice none 0 0, .slice none 0 0] 27)) s.size 0 5)).size + 1))).alloc (.cells #[.slice (some ⟨w.heap.size + 1, 0, none⟩) s.size (grownCap (w.alloc (.cells #[.slice none 0 0, .int .i64 0, .slice none 0 0, .int .i64 0, .int .i64 0, .int .i64 0, .slice none 0 0, .slice none 0 0] 27)) s.size 0 5), .int .i64 0] 90)).drew) (w.heap.size + 1 + 1) (w.heap.size + 1) (sbs s) 0 := ⟨sbs s, FS, sbs_byte s, fun _ => rfl⟩
  have X : Mut ((((w.alloc (.cells #[.slice none 0 0, .int .i64 0, .slice none 0 0, .int .i64 0, .int .i64 0, .int .i64 0, .slice none 0 0, .slice none 0 0] 27)).alloc (.cells (bytesRow s (grownCap (w.alloc (.cells #[.slice none 0 0, .int .i64 0, .slice none 0 0, .int .i64 0, .int .i64 0, .int .i64 0, .slice none 0 0, .slice none 0 0] 27)) s.size 0 5)) 5 ((bytesRow s (grownCap (w.alloc (.cells #[.slice none 0 0, .int .i64 0, .slice none 0 0, .int .i64 0, .int .i64 0, .int .i64 0, .slice none 0 0, .slice none 0 0] 27)) s.size 0 5)).size, (bytesRow s (grownCap (w.alloc (.cells #[.slice none 0 0, .int .i64 0, .slice none 0 0, .int .i64 0, .int .i64 0, .int .i64 0, .slice none 0 0, .slice none 0 0] 27)) s.size 0 5)).size + 1))).alloc (.cells #[.slice (some ⟨w.heap.size + 1, 0, none⟩) s.size (grownCap (w.alloc (.cells #[.slice none 0 0, .int .i64 0, .slice none 0 0, .int .i64 0, .int .i64 0, .int .i64 0, .slice none 0 0, .slice none 0 0] 27)) s.size 0 5), .int .i64 0] 90)).drew) w.heap.size [.slice none 0 0, .int .i64 0, .slice none 0 0, .int .i64 0, .int .i64 0, .int .i64 0, .slice none 0 0, .slice none 0 0] := (((Mut.new w #[.slice none 0 0, .int .i64 0, .slice none 0 0, .int .i64 0, .int .i64 0, .int .i64 0, .slice none 0 0, .slice none 0 0] 27).alloc _).alloc _).drew
  have d : Below w.heap.size w ((((w.alloc (.cells #[.slice none 0 0, .int .i64 0, .slice none 0 0, .int .i64 0, .int .i64 0, .int .i64 0, .slice none 0 0, .slice none 0 0] 27)).alloc (.cells (bytesRow s (grownCap (w.alloc (.cells #[.slice none 0 0, .int .i64 0, .slice none 0 0, .int .i64 0, .int .i64 0, .int .i64 0, .slice none 0 0, .slice none 0 0] 27)) s.size 0 5)) 5 ((bytesRow s (grownCap (w.alloc (.cells #[.slice none 0 0, .int .i64 0, .slice none 0 0, .int .i64 0, .int .i64 0, .int .i64 0, .slice none 0 0, .slice none 0 0] 27)) s.size 0 5)).size, (bytesRow s (grownCap (w.alloc (.cells #[.slice none 0 0, .int .i64 0, .slice none 0 0, .int .i64 0, .int .i64 0, .int .i64 0, .slice none 0 0, .slice none 0 0] 27)) s.size 0 5)).size + 1))).alloc (.cells #[.slice (some ⟨w.heap.size + 1, 0, none⟩) s.size (grownCap (w.alloc (.cells #[.slice none 0 0, .int .i64 0, .slice none 0 0, .int .i64 0, .int .i64 0, .int .i64 0, .slice none 0 0, .slice none 0 0] 27)) s.size 0 5), .int .i64 0] 90)).drew) := (below_box3 (Below.refl _ _)).drew
  clear FS
  go_enter Try.func16, Try.ntmps16
  go_wp2_with fail
  have hu : w.heap.size + 3 ≤ ((((w.alloc (.cells #[.slice none 0 0, .int .i64 0, .slice none 0 0, .int .i64 0, .int .i64 0, .int .i64 0, .slice none 0 0, .slice none 0 0] 27)).alloc (.cells (bytesRow s (grownCap (w.alloc (.cells #[.slice none 0 0, .int .i64 0, .slice none 0 0, .int .i64 0, .int .i64 0, .int .i64 0, .slice none 0 0, .slice none 0 0] 27)) s.size 0 5)) 5 ((bytesRow s (grownCap (w.alloc (.cells #[.slice none 0 0, .int .i64 0, .slice none 0 0, .int .i64 0, .int .i64 0, .int .i64 0, .slice none 0 0, .slice none 0 0] 27)) s.size 0 5)).size, (bytesRow s (grownCap (w.alloc (.cells #[.slice none 0 0, .int .i64 0, .slice none 0 0, .int .i64 0, .int .i64 0, .int .i64 0, .slice none 0 0, .slice none 0 0] 27)) s.size 0 5)).size + 1))).alloc (.cells #[.slice (some ⟨w.heap.size + 1, 0, none⟩) s.size (grownCap (w.alloc (.cells #[.slice none 0 0, .int .i64 0, .slice none 0 0, .int .i64 0, .int .i64 0, .int .i64 0, .slice none 0 0, .slice none 0 0] 27)) s.size 0 5), .int .i64 0] 90)).drew).heap.size := by simp [World.drew]
  generalize (((w.alloc (.cells #[.slice none 0 0, .int .i64 0, .slice none 0 0, .int .i64 0, .int .i64 0, .int .i64 0, .slice none 0 0, .slice none 0 0] 27)).alloc (.cells (bytesRow s (grownCap (w.alloc (.cells #[.slice none 0 0, .int .i64 0, .slice none 0 0, .int .i64 0, .int .i64 0, .int .i64 0, .slice none 0 0, .slice none 0 0] 27)) s.size 0 5)) 5 ((bytesRow s (grownCap (w.alloc (.cells #[.slice none 0 0, .int .i64 0, .slice none 0 0, .int .i64 0, .int .i64 0, .int .i64 0, .slice none 0 0, .slice none 0 0] 27)) s.size 0 5)).size, (bytesRow s (grownCap (w.alloc (.cells #[.slice none 0 0, .int .i64 0, .slice none 0 0, .int .i64 0, .int .i64 0, .int .i64 0, .slice none 0 0, .slice none 0 0] 27)) s.size 0 5)).size + 1))).alloc (.cells #[.slice (some ⟨w.heap.size + 1, 0, none⟩) s.size (grownCap (w.alloc (.cells #[.slice none 0 0, .int .i64 0, .slice none 0 0, .int .i64 0, .int .i64 0, .int .i64 0, .slice none 0 0, .slice none 0 0] 27)) s.size 0 5), .int .i64 0] 90)).drew = u at *
  clear hcv
  generalize (grownCap (w.alloc (.cells #[.slice none 0 0, .int .i64 0, .slice none 0 0, .int .i64 0, .int .i64 0, .int .i64 0, .slice none 0 0, .slice none 0 0] 27)) s.size 0 5) = cap0 at *
  generalize hr : w.heap.size = r at *
  have hr2 : w.heap.size ≤ r := Nat.le_of_eq hr
  have hr3 : r ≤ w.heap.size := Nat.le_of_eq hr.symm
  clear hr
  refine (PR.out _ _ _ (by omega) F0).mono ?_
  rintro e w2 ⟨p0, n0, p1, n1, p5, n5, p7, n7, L, rfl, O4, o, R⟩
  have X := X.only o (by omega)
  have d2 := d.trans (only_low o (show r ≤ r + 1 + 1 by omega) (by omega))
  have O4 := O4.base (show r + 1 ≤ u.heap.size by omega)
  obtain ⟨L', ⟨f0, cp, Mb, Fr3, Fr4⟩, hB, hL⟩ := R
  clear hL Fr3 Fr4 hB o d
  have Y := Mut.new w2 #[.slice p0 V0.length n0, .int .i64 v0, .slice p1 V1.length n1, .int .i64 v2, .int .i64 v3, .int .i64 v4, .slice p5 V5.length n5, .slice p7 V7.length n7] 27
  have O4 := O4.below (below_box (Below.refl _ _) : Below w2.heap.size w2 (w2.alloc (.cells #[.slice p0 V0.length n0, .int .i64 v0, .slice p1 V1.length n1, .int .i64 v2, .int .i64 v3, .int .i64 v4, .slice p5 V5.length n5, .slice p7 V7.length n7] 27)))
  have Mb := Mb.alloc (.cells #[.slice p0 V0.length n0, .int .i64 v0, .slice p1 V1.length n1, .int .i64 v2, .int .i64 v3, .int .i64 v4, .slice p5 V5.length n5, .slice p7 V7.length n7] 27)
  have X := X.alloc (.cells #[.slice p0 V0.length n0, .int .i64 v0, .slice p1 V1.length n1, .int .i64 v2, .int .i64 v3, .int .i64 v4, .slice p5 V5.length n5, .slice p7 V7.length n7] 27)
  have d3 : Below r w (w2.alloc (.cells #[.slice p0 V0.length n0, .int .i64 v0, .slice p1 V1.length n1, .int .i64 v2, .int .i64 v3, .int .i64 v4, .slice p5 V5.length n5, .slice p7 V7.length n7] 27)) := d2.trans ((below_box (Below.refl _ _)).mono (by have := d2.size; omega))
  have b1 := Mb.2.1 1 _ rfl
  go_wp2_with fail
  generalize w2.alloc (.cells #[.slice p0 V0.length n0, .int .i64 v0, .slice p1 V1.length n1, .int .i64 v2, .int .i64 v3, .int .i64 v4, .slice p5 V5.length n5, .slice p7 V7.length n7] 27) = u2 at *
  generalize w2.heap.size = A at *
  refine (UB.out _ _ _ _ _ _ _ _ _ _ O4).mono ?_
  rintro e w3 ⟨rfl, b3⟩
  have O4 := O4.below b3
  have X := X.below b3
  have Y := Y.below b3
  have d4 := d3.trans (b3.mono (by have := d3.size; omega))
  have hX := X.1
  have h0 := X.2.1 0 _ rfl
  have g0 := X.2.2 0 (by simp)
  have y0 := Y.2.1 0 _ rfl
  have h1 := X.2.1 1 _ rfl
  have g1 := X.2.2 1 (by simp)
  have y1 := Y.2.1 1 _ rfl
  have h2 := X.2.1 2 _ rfl
  have g2 := X.2.2 2 (by simp)
  have y2 := Y.2.1 2 _ rfl
  have h3 := X.2.1 3 _ rfl
  have g3 := X.2.2 3 (by simp)
  have y3 := Y.2.1 3 _ rfl
  have h4 := X.2.1 4 _ rfl
  have g4 := X.2.2 4 (by simp)
  have y4 := Y.2.1 4 _ rfl
  have h5 := X.2.1 5 _ rfl
  have g5 := X.2.2 5 (by simp)
  have y5 := Y.2.1 5 _ rfl
  have h6 := X.2.1 6 _ rfl
  have g6 := X.2.2 6 (by simp)
  have y6 := Y.2.1 6 _ rfl
  have h7 := X.2.1 7 _ rfl
  have g7 := X.2.2 7 (by simp)
  have y7 := Y.2.1 7 _ rfl
  cases ok with
  | false =>
    clear hn
    go_wp2_with fail
    refine bodyPost_ret (v := ruNo 3) (by simp [ruNo, results, Try.results16, go_sem, h0, h1, h2, h3, h4, h5, h6, h7]) rfl ⟨rfl, ?_⟩
    refine Below.setCell (Below.setCell (Below.setCell (Below.setCell (Below.setCell (Below.setCell (Below.setCell (Below.setCell (d4.mono hr2) ?_ _) ?_ _) ?_ _) ?_ _) ?_ _) ?_ _) ?_ _) ?_ _ <;> exact hr2
  | true =>
    have hts : (t.toList == s.toList) = false := by
      rcases hn with h | h
      · cases h
      · exact h
    clear hn
    go_wp2_with fail
    refine bodyPost_ret (v := ruNo 3) (by simp [ruNo, results, Try.results16, go_sem, h0, h1, h2, h3, h4, h5, h6, h7]) rfl ⟨rfl, ?_⟩
    refine Below.setCell (Below.setCell (Below.setCell (Below.setCell (Below.setCell (Below.setCell (Below.setCell (Below.setCell (d4.mono hr2) ?_ _) ?_ _) ?_ _) ?_ _) ?_ _) ?_ _) ?_ _) ?_ _ <;> exact hr2
set_option maxRecDepth 100000 in
set_option maxHeartbeats 3200000 in
theorem i_ru_yes (s : ByteArray) (V0 : List Pf) (v0 : Int) (V1 : List Int) (v2 v3 v4 : Int) (V5 : List Int) (V7 : List Pf) (t : ByteArray) (ok : Bool) (w : World) (hs : s.size ≤ 1000) (hn : ok = true) (hts : (t.toList == s.toList) = true)
    (PR : Hid (∀ b g w, g < b → Fr w b g (sbs s) 0 → Calls Try.prog 67 #[.pointer (some ⟨b, 0, none⟩)] w fun e w' => ∃ p0 n0 p1 n1 p5 n5 p7 n7 L, e = .returned (.agg #[.slice p0 V0.length n0, .int .i64 v0, .slice p1 V1.length n1, .int .i64 v2, .int .i64 v3, .int .i64 v4, .slice p5 V5.length n5, .slice p7 V7.length n7]) ∧ Own4 w.heap.size (.slice p0 V0.length n0) V0 (.slice p1 V1.length n1) V1 (.slice p5 V5.length n5) V5 (.slice p7 V7.length n7) V7 w' ∧ Only b w w' ∧ Fr w' b g L 0))
    (UB : Hid (∀ p0 n0 p1 n1 p5 n5 p7 n7 base w, Own4 base (.slice p0 V0.length n0) V0 (.slice p1 V1.length n1) V1 (.slice p5 V5.length n5) V5 (.slice p7 V7.length n7) V7 w → Calls Try.prog 58 #[.agg #[.slice p0 V0.length n0, .int .i64 v0, .slice p1 V1.length n1, .int .i64 v2, .int .i64 v3, .int .i64 v4, .slice p5 V5.length n5, .slice p7 V7.length n7]] w fun e w' => e = .returned (.tuple #[.string t, .bool ok]) ∧ Below w.heap.size w w')) :
    Calls Try.prog 16 #[.string s] w fun e w' => ∃ p0 n0 p1 n1 p5 n5 p7 n7, e = .returned (.tuple #[.agg #[.slice p0 V0.length n0, .int .i64 v0, .slice p1 V1.length n1, .int .i64 v2, .int .i64 v3, .int .i64 v4, .slice p5 V5.length n5, .slice p7 V7.length n7], .int .i64 0, .bool true]) ∧ Own4 w.heap.size (.slice p0 V0.length n0) V0 (.slice p1 V1.length n1) V1 (.slice p5 V5.length n5) V5 (.slice p7 V7.length n7) V7 w' ∧ Below w.heap.size w w' := by
  have h1' : ¬ ((s.size : Int) > 1000) := by omega
  have hcv := fun (w : World) (t : ByteArray) => run_bytes_of_string (P := Try.prog) w 9 72 5 t Try.underlying9 Try.underlying72 Try.underlying5
  have FS := front_start (w.alloc (.cells #[.slice none 0 0, .int .i64 0, .slice none 0 0, .int .i64 0, .int .i64 0, .int .i64 0, .slice none 0 0, .slice none 0 0] 27)) s s.size (grownCap (w.alloc (.cells #[.slice none 0 0, .int .i64 0, .slice none 0 0, .int .i64 0, .int .i64 0, .int .i64 0, .slice none 0 0, .slice none 0 0] 27)) s.size 0 5) 5 90 ((bytesRow s (grownCap (w.alloc (.cells #[.slice none 0 0, .int .i64 0, .slice none 0 0, .int .i64 0, .int .i64 0, .int .i64 0, .slice none 0 0, .slice none 0 0] 27)) s.size 0 5)).size, (bytesRow s (grownCap (w.alloc (.cells #[.slice none 0 0, .int .i64 0, .slice none 0 0, .int .i64 0, .int .i64 0, .int .i64 0, .slice none 0 0, .slice none 0 0] 27)) s.size 0 5)).size + 1) rfl (grownCap_ge _ _ _ _) (grownCap_le_maxLen _ _ _ _ (by unfold maxLen; omega))
  simp only [World.size_alloc] at FS
  have F0 : Fr ((((w.alloc (.cells #[.slice none 0 0, .int .i64 0, .slice none 0 0, .int .i64 0, .int .i64 0, .int .i64 0, .slice none 0 0, .slice none 0 0] 27)).alloc (.cells (bytesRow s (grownCap (w.alloc (.cells #[.slice none 0 0, .int .i64 0, .slice none 0 0, .int .i64 0, .int .i64 0, .int .i64 0, .slice none 0 0, .slice none 0 0] 27)) s.size 0 5)) 5 ((bytesRow s (grownCap (w.alloc (.cells #[.slice none 0 0, .int .i64 0, .slice none 0 0, .int .i64 0, .int .i64 0, .int .i64 0, .slice none 0 0, .slice none 0 0] 27)) s.size 0 5)).size, (bytesRow s (grownCap (w.alloc (.cells #[.slice none 0 0, .int .i64 0, .slice none 0 0, .int .i64 0, .int .i64 0, .int .i64 0, .slice none 0 0, .slice none 0 0] 27)) s.size 0 5)).size + 1))).alloc (.cells #[.slice (some ⟨w.heap.size + 1, 0, none⟩) s.size (grownCap (w.alloc (.cells #[.slice none 0 0, .int .i64 0, .slice none 0 0, .int .i64 0, .int .i64 0, .int .i64 0, .slice none 0 0, .slice none 0 0] 27)) s.size 0 5), .int .i64 0] 90)).drew) (w.heap.size + 1 + 1) (w.heap.size + 1) (sbs s) 0 := ⟨sbs s, FS, sbs_byte s, fun _ => rfl⟩
  have X : Mut ((((w.alloc (.cells #[.slice none 0 0, .int .i64 0, .slice none 0 0, .int .i64 0, .int .i64 0, .int .i64 0, .slice none 0 0, .slice none 0 0] 27)).alloc (.cells (bytesRow s (grownCap (w.alloc (.cells #[.slice none 0 0, .int .i64 0, .slice none 0 0, .int .i64 0, .int .i64 0, .int .i64 0, .slice none 0 0, .slice none 0 0] 27)) s.size 0 5)) 5 ((bytesRow s (grownCap (w.alloc (.cells #[.slice none 0 0, .int .i64 0, .slice none 0 0, .int .i64 0, .int .i64 0, .int .i64 0, .slice none 0 0, .slice none 0 0] 27)) s.size 0 5)).size, (bytesRow s (grownCap (w.alloc (.cells #[.slice none 0 0, .int .i64 0, .slice none 0 0, .int .i64 0, .int .i64 0, .int .i64 0, .slice none 0 0, .slice none 0 0] 27)) s.size 0 5)).size + 1))).alloc (.cells #[.slice (some ⟨w.heap.size + 1, 0, none⟩) s.size (grownCap (w.alloc (.cells #[.slice none 0 0, .int .i64 0, .slice none 0 0, .int .i64 0, .int .i64 0, .int .i64 0, .slice none 0 0, .slice none 0 0] 27)) s.size 0 5), .int .i64 0] 90)).drew) w.heap.size [.slice none 0 0, .int .i64 0, .slice none 0 0, .int .i64 0, .int .i64 0, .int .i64 0, .slice none 0 0, .slice none 0 0] := (((Mut.new w #[.slice none 0 0, .int .i64 0, .slice none 0 0, .int .i64 0, .int .i64 0, .int .i64 0, .slice none 0 0, .slice none 0 0] 27).alloc _).alloc _).drew
  have d : Below w.heap.size w ((((w.alloc (.cells #[.slice none 0 0, .int .i64 0, .slice none 0 0, .int .i64 0, .int .i64 0, .int .i64 0, .slice none 0 0, .slice none 0 0] 27)).alloc (.cells (bytesRow s (grownCap (w.alloc (.cells #[.slice none 0 0, .int .i64 0, .slice none 0 0, .int .i64 0, .int .i64 0, .int .i64 0, .slice none 0 0, .slice none 0 0] 27)) s.size 0 5)) 5 ((bytesRow s (grownCap (w.alloc (.cells #[.slice none 0 0, .int .i64 0, .slice none 0 0, .int .i64 0, .int .i64 0, .int .i64 0, .slice none 0 0, .slice none 0 0] 27)) s.size 0 5)).size, (bytesRow s (grownCap (w.alloc (.cells #[.slice none 0 0, .int .i64 0, .slice none 0 0, .int .i64 0, .int .i64 0, .int .i64 0, .slice none 0 0, .slice none 0 0] 27)) s.size 0 5)).size + 1))).alloc (.cells #[.slice (some ⟨w.heap.size + 1, 0, none⟩) s.size (grownCap (w.alloc (.cells #[.slice none 0 0, .int .i64 0, .slice none 0 0, .int .i64 0, .int .i64 0, .int .i64 0, .slice none 0 0, .slice none 0 0] 27)) s.size 0 5), .int .i64 0] 90)).drew) := (below_box3 (Below.refl _ _)).drew
  clear FS
  go_enter Try.func16, Try.ntmps16
  go_wp2_with fail
  have hu : w.heap.size + 3 ≤ ((((w.alloc (.cells #[.slice none 0 0, .int .i64 0, .slice none 0 0, .int .i64 0, .int .i64 0, .int .i64 0, .slice none 0 0, .slice none 0 0] 27)).alloc (.cells (bytesRow s (grownCap (w.alloc (.cells #[.slice none 0 0, .int .i64 0, .slice none 0 0, .int .i64 0, .int .i64 0, .int .i64 0, .slice none 0 0, .slice none 0 0] 27)) s.size 0 5)) 5 ((bytesRow s (grownCap (w.alloc (.cells #[.slice none 0 0, .int .i64 0, .slice none 0 0, .int .i64 0, .int .i64 0, .int .i64 0, .slice none 0 0, .slice none 0 0] 27)) s.size 0 5)).size, (bytesRow s (grownCap (w.alloc (.cells #[.slice none 0 0, .int .i64 0, .slice none 0 0, .int .i64 0, .int .i64 0, .int .i64 0, .slice none 0 0, .slice none 0 0] 27)) s.size 0 5)).size + 1))).alloc (.cells #[.slice (some ⟨w.heap.size + 1, 0, none⟩) s.size (grownCap (w.alloc (.cells #[.slice none 0 0, .int .i64 0, .slice none 0 0, .int .i64 0, .int .i64 0, .int .i64 0, .slice none 0 0, .slice none 0 0] 27)) s.size 0 5), .int .i64 0] 90)).drew).heap.size := by simp [World.drew]
  generalize (((w.alloc (.cells #[.slice none 0 0, .int .i64 0, .slice none 0 0, .int .i64 0, .int .i64 0, .int .i64 0, .slice none 0 0, .slice none 0 0] 27)).alloc (.cells (bytesRow s (grownCap (w.alloc (.cells #[.slice none 0 0, .int .i64 0, .slice none 0 0, .int .i64 0, .int .i64 0, .int .i64 0, .slice none 0 0, .slice none 0 0] 27)) s.size 0 5)) 5 ((bytesRow s (grownCap (w.alloc (.cells #[.slice none 0 0, .int .i64 0, .slice none 0 0, .int .i64 0, .int .i64 0, .int .i64 0, .slice none 0 0, .slice none 0 0] 27)) s.size 0 5)).size, (bytesRow s (grownCap (w.alloc (.cells #[.slice none 0 0, .int .i64 0, .slice none 0 0, .int .i64 0, .int .i64 0, .int .i64 0, .slice none 0 0, .slice none 0 0] 27)) s.size 0 5)).size + 1))).alloc (.cells #[.slice (some ⟨w.heap.size + 1, 0, none⟩) s.size (grownCap (w.alloc (.cells #[.slice none 0 0, .int .i64 0, .slice none 0 0, .int .i64 0, .int .i64 0, .int .i64 0, .slice none 0 0, .slice none 0 0] 27)) s.size 0 5), .int .i64 0] 90)).drew = u at *
  clear hcv
  generalize (grownCap (w.alloc (.cells #[.slice none 0 0, .int .i64 0, .slice none 0 0, .int .i64 0, .int .i64 0, .int .i64 0, .slice none 0 0, .slice none 0 0] 27)) s.size 0 5) = cap0 at *
  generalize hr : w.heap.size = r at *
  have hr2 : w.heap.size ≤ r := Nat.le_of_eq hr
  have hr3 : r ≤ w.heap.size := Nat.le_of_eq hr.symm
  clear hr
  refine (PR.out _ _ _ (by omega) F0).mono ?_
  rintro e w2 ⟨p0, n0, p1, n1, p5, n5, p7, n7, L, rfl, O4, o, R⟩
  have X := X.only o (by omega)
  have d2 := d.trans (only_low o (show r ≤ r + 1 + 1 by omega) (by omega))
  have O4 := O4.base (show r + 1 ≤ u.heap.size by omega)
  obtain ⟨L', ⟨f0, cp, Mb, Fr3, Fr4⟩, hB, hL⟩ := R
  clear hL Fr3 Fr4 hB o d
  have Y := Mut.new w2 #[.slice p0 V0.length n0, .int .i64 v0, .slice p1 V1.length n1, .int .i64 v2, .int .i64 v3, .int .i64 v4, .slice p5 V5.length n5, .slice p7 V7.length n7] 27
  have O4 := O4.below (below_box (Below.refl _ _) : Below w2.heap.size w2 (w2.alloc (.cells #[.slice p0 V0.length n0, .int .i64 v0, .slice p1 V1.length n1, .int .i64 v2, .int .i64 v3, .int .i64 v4, .slice p5 V5.length n5, .slice p7 V7.length n7] 27)))
  have Mb := Mb.alloc (.cells #[.slice p0 V0.length n0, .int .i64 v0, .slice p1 V1.length n1, .int .i64 v2, .int .i64 v3, .int .i64 v4, .slice p5 V5.length n5, .slice p7 V7.length n7] 27)
  have X := X.alloc (.cells #[.slice p0 V0.length n0, .int .i64 v0, .slice p1 V1.length n1, .int .i64 v2, .int .i64 v3, .int .i64 v4, .slice p5 V5.length n5, .slice p7 V7.length n7] 27)
  have d3 : Below r w (w2.alloc (.cells #[.slice p0 V0.length n0, .int .i64 v0, .slice p1 V1.length n1, .int .i64 v2, .int .i64 v3, .int .i64 v4, .slice p5 V5.length n5, .slice p7 V7.length n7] 27)) := d2.trans ((below_box (Below.refl _ _)).mono (by have := d2.size; omega))
  have b1 := Mb.2.1 1 _ rfl
  go_wp2_with fail
  generalize w2.alloc (.cells #[.slice p0 V0.length n0, .int .i64 v0, .slice p1 V1.length n1, .int .i64 v2, .int .i64 v3, .int .i64 v4, .slice p5 V5.length n5, .slice p7 V7.length n7] 27) = u2 at *
  generalize w2.heap.size = A at *
  refine (UB.out _ _ _ _ _ _ _ _ _ _ O4).mono ?_
  rintro e w3 ⟨rfl, b3⟩
  have O4 := O4.below b3
  have X := X.below b3
  have Y := Y.below b3
  have d4 := d3.trans (b3.mono (by have := d3.size; omega))
  have hX := X.1
  have h0 := X.2.1 0 _ rfl
  have g0 := X.2.2 0 (by simp)
  have y0 := Y.2.1 0 _ rfl
  have h1 := X.2.1 1 _ rfl
  have g1 := X.2.2 1 (by simp)
  have y1 := Y.2.1 1 _ rfl
  have h2 := X.2.1 2 _ rfl
  have g2 := X.2.2 2 (by simp)
  have y2 := Y.2.1 2 _ rfl
  have h3 := X.2.1 3 _ rfl
  have g3 := X.2.2 3 (by simp)
  have y3 := Y.2.1 3 _ rfl
  have h4 := X.2.1 4 _ rfl
  have g4 := X.2.2 4 (by simp)
  have y4 := Y.2.1 4 _ rfl
  have h5 := X.2.1 5 _ rfl
  have g5 := X.2.2 5 (by simp)
  have y5 := Y.2.1 5 _ rfl
  have h6 := X.2.1 6 _ rfl
  have g6 := X.2.2 6 (by simp)
  have y6 := Y.2.1 6 _ rfl
  have h7 := X.2.1 7 _ rfl
  have g7 := X.2.2 7 (by simp)
  have y7 := Y.2.1 7 _ rfl
  subst hn
  go_wp2_with fail
  refine bodyPost_ret (v := .tuple #[.agg #[.slice p0 V0.length n0, .int .i64 v0, .slice p1 V1.length n1, .int .i64 v2, .int .i64 v3, .int .i64 v4, .slice p5 V5.length n5, .slice p7 V7.length n7], .int .i64 0, .bool true]) (by simp [results, Try.results16, go_sem, h0, h1, h2, h3, h4, h5, h6, h7]) rfl ⟨p0, n0, p1, n1, p5, n5, p7, n7, rfl, ((((((((O4.set (x := r) (by omega) _ _).set (x := r) (by omega) _ _).set (x := r) (by omega) _ _).set (x := r) (by omega) _ _).set (x := r) (by omega) _ _).set (x := r) (by omega) _ _).set (x := r) (by omega) _ _).set (x := r) (by omega) _ _).base (by omega), ?_⟩
  refine Below.setCell (Below.setCell (Below.setCell (Below.setCell (Below.setCell (Below.setCell (Below.setCell (Below.setCell (d4.mono hr2) ?_ _) ?_ _) ?_ _) ?_ _) ?_ _) ?_ _) ?_ _) ?_ _ <;> exact hr2
end Go.Proofs.Ytoeephmdklmpfaa
