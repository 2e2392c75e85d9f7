/- PlayPair of the program. -/
import Derived.Test.YtjfalfjadleegaaI12t
import Derived.Test.YtjfalfjadleegaaI12a
namespace Go.Proofs.Ytjfalfjadleegaa
open Go.RowKit

theorem below_offP {P : Nat → Prop} {w x y : World} (h : Below w.heap.size w x) (k : OnlyP P x y) (hb : ∀ j, P j → w.heap.size ≤ j) : Below w.heap.size w y :=
  ⟨k.1.trans h.os, k.2.1.trans h.tape, k.2.2.1.trans h.output, Nat.le_trans h.size k.2.2.2.1, fun i hi => (k.2.2.2.2 i (Nat.lt_of_lt_of_le hi h.size) (fun q => by have := hb i q; omega)).trans (h.block i hi)⟩
/-- Two sides that were just made. -/
def SdR (e : TypeId) (a b : Int) (W : World) (p1 p2 : Value) (wx : World) : Prop := ∃ b1 b2, p1 = .pointer (some ⟨b1, 0, none⟩) ∧ p2 = .pointer (some ⟨b2, 0, none⟩) ∧ W.heap.size ≤ b1 ∧ W.heap.size ≤ b2 ∧ Below W.heap.size W wx ∧ PI e wx.heap.size b1 b2 ⟨0, a, 0, 0, 0⟩ a 0 [] ⟨0, b, 0, 0, 0⟩ b 0 [] wx
theorem SdR.one {e ty : TypeId} {a b : Int} {W : World} : SdR e a b W (.pointer (some ⟨W.heap.size, 0, none⟩)) (.pointer (some ⟨W.heap.size + 1, 0, none⟩)) ((W.alloc (.cells #[.int .i64 0, .int .i64 a, .int .i64 0, .int .i64 0, .int .i64 0, .int .i64 a, .slice none 0 0, .int .i64 0] ty)).alloc (.cells #[.int .i64 0, .int .i64 b, .int .i64 0, .int .i64 0, .int .i64 0, .int .i64 b, .slice none 0 0, .int .i64 0] ty)) := by
  refine ⟨_, _, rfl, rfl, Nat.le_refl _, by omega, below_box2 (Below.refl _ _), by omega, by simp <;> omega, by simp, Nat.le_refl _, .slice none 0 0, .slice none 0 0, (Mut.new W _ ty).alloc _, ?_, ownN_nil _ _ _ _, ownN_nil _ _ _ _, fun j hj => by simp [Value.ownBlock] at hj⟩
  simpa using Mut.new (W.alloc (.cells #[.int .i64 0, .int .i64 a, .int .i64 0, .int .i64 0, .int .i64 0, .int .i64 a, .slice none 0 0, .int .i64 0] ty)) #[.int .i64 0, .int .i64 b, .int .i64 0, .int .i64 0, .int .i64 0, .int .i64 b, .slice none 0 0, .int .i64 0] ty
theorem SdR.two {e ty : TypeId} {a b : Int} {W : World} : SdR e a b W (.pointer (some ⟨W.heap.size + 1, 0, none⟩)) (.pointer (some ⟨W.heap.size, 0, none⟩)) ((W.alloc (.cells #[.int .i64 0, .int .i64 b, .int .i64 0, .int .i64 0, .int .i64 0, .int .i64 b, .slice none 0 0, .int .i64 0] ty)).alloc (.cells #[.int .i64 0, .int .i64 a, .int .i64 0, .int .i64 0, .int .i64 0, .int .i64 a, .slice none 0 0, .int .i64 0] ty)) := by
  obtain ⟨b1, b2, e1, e2, h1, h2, h3, h4⟩ := SdR.one (e := e) (ty := ty) (a := b) (b := a) (W := W)
  exact ⟨b2, b1, e2, e1, h2, h1, h3, h4.symm⟩
theorem SdR.drew {e : TypeId} {a b : Int} {W : World} {p1 p2 : Value} {wx : World} (h : SdR e a b W p1 p2 wx) : SdR e a b W p1 p2 wx.drew := by
  obtain ⟨b1, b2, e1, e2, h1, h2, h3, h4⟩ := h
  exact ⟨b1, b2, e1, e2, h1, h2, h3.drew, h4.below (Below.refl _ _).drew⟩
/-- Where a pair stands in the loop. -/
def PjR (e : TypeId) (a b : Int) (f : Nat → Int) (bR b1 b2 base : Nat) (w0 : World) (m : Nat) (wr : World) : Prop :=
  (∀ i, i < m → f i = 0 ∨ f i = 1 ∨ f i = 2) ∧ ∃ (T1 T2 : List Int) (c1 c2 : Nat), PI e base b1 b2 (ppRun a b f m).x a (c1 : Int) T1 (ppRun a b f m).y b (c2 : Int) T2 wr ∧ T1.drop c1 = (ppRun a b f m).qx ∧ T2.drop c2 = (ppRun a b f m).qy ∧ c1 ≤ T1.length ∧ c2 ≤ T2.length ∧ T1.length ≤ m + 1 ∧ T2.length ≤ m + 1 ∧
  Mut wr bR [.int .i64 0, .int .i64 0, .int .i64 0, .int .i64 0, .int .i64 0] ∧ Mut wr (bR + 1) [.int .i64 0, .int .i64 0, .int .i64 0, .int .i64 0, .int .i64 0] ∧ Below w0.heap.size w0 wr
theorem drop_next {T q : List Int} {z : Int} {c : Nat} (h : T.drop c = z :: q) : c < T.length ∧ T.getD c 0 = z ∧ T.drop (c + 1) = q := by
  have hc : c < T.length := by
    rcases Nat.lt_or_ge c T.length with h' | h'
    · exact h'
    · rw [List.drop_eq_nil_of_le h'] at h; simp at h
  have e := List.drop_eq_getElem_cons hc
  rw [h] at e
  simp only [List.cons.injEq] at e
  exact ⟨hc, by rw [List.getD_eq_getElem?_getD, List.getElem?_eq_getElem hc]; exact e.1.symm, e.2.symm⟩
theorem drop_none {T : List Int} {c : Nat} (h : T.drop c = []) (hc : c ≤ T.length) : c = T.length := by
  have := List.drop_eq_nil_iff.1 h
  omega
set_option maxRecDepth 100000 in
set_option maxHeartbeats 12800000 in
theorem i_playPair (a b : Int) (ra : Option Addr) (n rc : Nat) (f : Nat → Int) (w : World) (hn : n ≤ 1048576) (hR : RowInt ra n f w) :
    Calls Try.prog 5 #[.int .i64 a, .int .i64 b, .slice ra n rc] w fun e w' => e = .returned (.tuple #[(pqX a b n f).v, (pqY a b n f).v, .bool (pqB a b n f)]) ∧ Below w.heap.size w w' := by
  have s1 := hide (fun h w => i_new h w)
  have MA := (Mut.zeros5 w 27).alloc (.cells #[.int .i64 0, .int .i64 0, .int .i64 0, .int .i64 0, .int .i64 0] 27)
  have MB : Mut ((w.alloc (.cells #[.int .i64 0, .int .i64 0, .int .i64 0, .int .i64 0, .int .i64 0] 27)).alloc (.cells #[.int .i64 0, .int .i64 0, .int .i64 0, .int .i64 0, .int .i64 0] 27)) (w.heap.size + 1) [.int .i64 0, .int .i64 0, .int .i64 0, .int .i64 0, .int .i64 0] := by
    simpa using Mut.zeros5 (w.alloc (.cells #[.int .i64 0, .int .i64 0, .int .i64 0, .int .i64 0, .int .i64 0] 27)) 27
  have dd : Below w.heap.size w ((w.alloc (.cells #[.int .i64 0, .int .i64 0, .int .i64 0, .int .i64 0, .int .i64 0] 27)).alloc (.cells #[.int .i64 0, .int .i64 0, .int .i64 0, .int .i64 0, .int .i64 0] 27)) := below_box2 (Below.refl _ _)
  have SA := hide (fun w => s1.out a w)
  have SB := hide (fun w => s1.out b w)
  by_cases hOk : (3 ≤ a ∧ a ≤ 90) ∧ (3 ≤ b ∧ b ≤ 90) ∧ n ≤ 100
  · obtain ⟨ca, cb, cn⟩ := hOk
    rw [(new_t ca).1, (new_t ca).2] at SA
    rw [(new_t cb).1, (new_t cb).2] at SB
    have cn' : ¬ (n : Int) > 100 := by omega
    go_enter Try.func5, Try.ntmps5
    go_upto_region 1 with fail
    generalize (w.alloc (.cells #[.int .i64 0, .int .i64 0, .int .i64 0, .int .i64 0, .int .i64 0] 27)).alloc (.cells #[.int .i64 0, .int .i64 0, .int .i64 0, .int .i64 0, .int .i64 0] 27) = wz at *
    go_wp2_with fail
    refine (SA.out _).mono ?_
    rintro e w1 ⟨rfl, b1'⟩
    have bA : Below w1.heap.size w1 (w1.alloc (.cells #[.int .i64 0, .int .i64 a, .int .i64 0, .int .i64 0, .int .i64 0] 27)) := below_box (Below.refl _ _)
    have M9 := Mut.new w1 #[.int .i64 0, .int .i64 a, .int .i64 0, .int .i64 0, .int .i64 0] 27
    replace MA := (MA.below b1').below bA
    replace MB := (MB.below b1').below bA
    replace dd := (dd.trans (b1'.mono dd.size)).trans (bA.mono (Nat.le_trans dd.size b1'.size))
    clear b1' bA
    go_upto_region 2 with fail
    generalize w1.alloc (.cells #[.int .i64 0, .int .i64 a, .int .i64 0, .int .i64 0, .int .i64 0] 27) = wA at *
    generalize w1.heap.size = q9 at *
    go_wp2_with fail
    refine (SB.out _).mono ?_
    rintro e w2 ⟨rfl, b2'⟩
    have bB : Below w2.heap.size w2 (w2.alloc (.cells #[.int .i64 0, .int .i64 b, .int .i64 0, .int .i64 0, .int .i64 0] 27)) := below_box (Below.refl _ _)
    have M11 := Mut.new w2 #[.int .i64 0, .int .i64 b, .int .i64 0, .int .i64 0, .int .i64 0] 27
    replace MA := (MA.below b2').below bB
    replace MB := (MB.below b2').below bB
    replace M9 := (M9.below b2').below bB
    replace dd := (dd.trans (b2'.mono dd.size)).trans (bB.mono (Nat.le_trans dd.size b2'.size))
    clear b2' bB SA SB s1
    go_upto_region 5 with fail
    generalize w2.alloc (.cells #[.int .i64 0, .int .i64 b, .int .i64 0, .int .i64 0, .int .i64 0] 27) = wB at *
    generalize w2.heap.size = q11 at *
    have h9 := M9.1
    have h11 := M11.1
    have A9 := fun (o : Obj) k => old1 h9 o k
    have A11 := fun (o : Obj) k => old1 h11 o k
    have a0 := M9.2.1 0 _ rfl
    have a1 := M9.2.1 1 _ rfl
    have a2 := M9.2.1 2 _ rfl
    have a3 := M9.2.1 3 _ rfl
    have a4 := M9.2.1 4 _ rfl
    have e0 := M11.2.1 0 _ rfl
    have e1 := M11.2.1 1 _ rfl
    have e2 := M11.2.1 2 _ rfl
    have e3 := M11.2.1 3 _ rfl
    have e4 := M11.2.1 4 _ rfl
    go_cut [13, 14] (fun p1 p2 wx => SdR 3 a b wB p1 p2 wx)
    case first =>
      go_region
      all_goals (go_wp2_with fail; go_meet)
      all_goals first | exact SdR.one.drew | exact SdR.two.drew | exact SdR.one | exact SdR.two
    case rest =>
      obtain ⟨b1, b2, rfl, rfl, hb1, hb2, dB, hPI⟩ := hcut
      clear a0 a1 a2 a3 a4 e0 e1 e2 e3 e4 A9 A11 h9 h11 M9 M11
      have hMB : w.heap.size + 1 < wB.heap.size := MB.1
      replace MA := MA.below dB
      replace MB := MB.below dB
      replace dd := dd.trans (dB.mono dd.size)
      have hbz := dB.size
      obtain ⟨base, hbase⟩ : ∃ base, base = wc.heap.size := ⟨_, rfl⟩
      rw [← hbase] at hPI
      have hbase2 : wB.heap.size ≤ base := by omega
      have hbh := hide hbase
      clear hbase hbz dB
      have nA : ¬ (w.heap.size = b1 ∨ w.heap.size = b2 ∨ base ≤ w.heap.size) := by omega
      have nB : ¬ (w.heap.size + 1 = b1 ∨ w.heap.size + 1 = b2 ∨ base ≤ w.heap.size + 1) := by omega
      have nW : ∀ j, (j = b1 ∨ j = b2 ∨ base ≤ j) → w.heap.size ≤ j := fun j hj => by omega
      have BM1 := hide (fun w h => i_both base b1 b2 ⟨0, a, 0, 0, 0⟩ a 0 [] ⟨0, b, 0, 0, 0⟩ b 0 [] 1 w (by unfold GS; dsimp only; omega) (by unfold GS; dsimp only; omega) (by simp) (by simp) h)
      rw [show stp ⟨0, a, 0, 0, 0⟩ 1 0 = (⟨1, a, 0, 0, 0⟩, 0) by simp [stp], show stp ⟨0, b, 0, 0, 0⟩ 1 0 = (⟨1, b, 0, 0, 0⟩, 0) by simp [stp], show ([] : List Int) ++ tl12 0 = [] from rfl] at BM1
      have BM3 := hide (fun w h => i_both base b1 b2 ⟨1, a, 0, 0, 0⟩ a 0 [] ⟨1, b, 0, 0, 0⟩ b 0 [] 3 w (by unfold GS; dsimp only; omega) (by unfold GS; dsimp only; omega) (by simp) (by simp) h)
      rw [show stp ⟨1, a, 0, 0, 0⟩ 3 0 = (⟨2, a, 90, 0, 0⟩, 1) by simp [stp], show stp ⟨1, b, 0, 0, 0⟩ 3 0 = (⟨2, b, 90, 0, 0⟩, 1) by simp [stp], show ([] : List Int) ++ tl12 1 = [1] from rfl] at BM3
      go_wp2_with fail
      refine (BM1.out _ hPI).mono ?_
      rintro e w3 ⟨rfl, h3, k3⟩
      replace MA := MA.onlyP k3 nA
      replace MB := MB.onlyP k3 nB
      replace dd := below_offP dd k3 nW
      clear k3 hPI BM1
      go_wp2_with fail
      refine (BM3.out _ h3).mono ?_
      rintro e w4 ⟨rfl, h4, k4⟩
      replace MA := MA.onlyP k4 nA
      replace MB := MB.onlyP k4 nB
      replace dd := below_offP dd k4 nW
      have hP0 : PjR 3 a b f w.heap.size b1 b2 base w 0 w4 := ⟨fun i hi => absurd hi (Nat.not_lt_zero _), [1], [1], 0, 0, h4, rfl, rfl, by simp, by simp, by simp, by simp, MA, MB, dd⟩
      have hP0' := hide hP0
      clear k4 h3 h4 BM3 MA MB dd hP0
      go_wp2_with fail
      go_loopw [56] (fun i wr => ∃ m : Nat, m ≤ n ∧ i = .int .i64 m ∧ PjR 3 a b f w.heap.size b1 b2 base w m wr) (fun i _ => n - (intOf i).toNat)
      case atStart => exact ⟨0, Nat.zero_le _, rfl, hP0'.out⟩
      case round =>
        obtain ⟨m, hm, rfl, hf, T1, T2, c1, c2, hPI, t1, t2, hc1, hc2, l1, l2, MA, MB, dr⟩ := hrel
        have hf' := hide hf
        have hI := ppRun_ok ca cb f m
        have hsu := ppRun_succ a b f m
        clear hf hP0'
        generalize hT : ppRun a b f m = T at *
        obtain ⟨x, y, qx, qy⟩ := T
        obtain ⟨gx, gy, kx, ky, lx, ly⟩ := hI
        dsimp only at *
        have hm1 : (m : Int) ≤ 100 := by omega
        by_cases hlt : m < n
        · have hlt' : (m : Int) < (n : Int) := by omega
          obtain ⟨rb, ro, hra, hrb, fm⟩ := hR m hlt
          subst hra
          replace fm := (dr.cell (p := ⟨rb, ro + m, none⟩) hrb).trans fm
          by_cases k0 : f m = 0
          · rw [show ppStep a b (f m) ⟨x, y, qx, qy⟩ = ppTick ⟨x, y, qx, qy⟩ by unfold ppStep; rw [if_pos k0]] at hsu
            rw [k0] at fm
            have hf2 : Hid (∀ i, i < m + 1 → f i = 0 ∨ f i = 1 ∨ f i = 2) := fun i hi => by
              by_cases e : i = m
              · subst e; exact .inl k0
              · exact hf'.out i (by omega)
            have BM := hide (fun w h => i_both base b1 b2 x a (c1 : Int) T1 y b (c2 : Int) T2 10 w gx gy (by omega) (by omega) h)
            rw [show stp x 10 0 = tick x by simp [stp], show stp y 10 0 = tick y by simp [stp]] at BM
            unfold ppTick at hsu
            dsimp only at hsu
            have hsu' := hide hsu
            have ltx := tl12_len (tick x).2
            have lty := tl12_len (tick y).2
            generalize tick x = RX at *
            generalize tick y = RY at *
            clear hsu hT k0 gx gy hf'
            go_wp2_with fail
            refine (BM.out _ hPI).mono ?_
            rintro e w5 ⟨rfl, h5, k5⟩
            go_wp2_with fail
            refine ⟨⟨m + 1, by omega, by go_num, ?_⟩, by simp [intOf]; omega⟩
            unfold PjR
            rw [hsu'.out]
            exact ⟨hf2.out, _, _, c1, c2, h5, by rw [List.drop_append_of_le_length hc1, t1], by rw [List.drop_append_of_le_length hc2, t2], by rw [List.length_append]; omega, by rw [List.length_append]; omega, by rw [List.length_append]; omega, by rw [List.length_append]; omega, MA.onlyP k5 nA, MB.onlyP k5 nB, below_offP dr k5 nW⟩
          · have k0' : (f m == 0) = false := by simp [k0]
            by_cases k1 : f m = 1
            · rw [show ppStep a b (f m) ⟨x, y, qx, qy⟩ = ppX b ⟨x, y, qx, qy⟩ by unfold ppStep; rw [if_neg k0, if_pos k1]] at hsu
              rw [k1] at fm
              have hf2 : Hid (∀ i, i < m + 1 → f i = 0 ∨ f i = 1 ∨ f i = 2) := fun i hi => by
                by_cases e : i = m
                · subst e; exact .inr (.inl k1)
                · exact hf'.out i (by omega)
              cases qx with
              | nil =>
                have hce := drop_none t1 hc1
                subst hce
                have HR := hide (fun w h => i_hears0 base b1 b2 x a T1 y b (c2 : Int) T2 w (by omega) h)
                have hsu' : Hid (ppRun a b f (m + 1) = ⟨x, y, [], qy⟩) := by rw [Hid, hsu]; rfl
                clear hsu hT k0 gx gy hf'
                go_wp2_with fail
                refine (HR.out _ hPI).mono ?_
                rintro e w5 ⟨rfl, hw5⟩
                rw [hw5]; clear hw5 w5
                go_wp2_with fail
                refine ⟨⟨m + 1, by omega, by go_num, ?_⟩, by simp [intOf]; omega⟩
                unfold PjR
                rw [hsu'.out]
                exact ⟨hf2.out, T1, T2, T1.length, c2, hPI, t1, t2, hc1, hc2, by omega, by omega, MA, MB, dr⟩
              | cons z q' =>
                obtain ⟨hcl, hgz, hnx⟩ := drop_next t1
                have HR := hide (fun w h => i_hears1 base b1 b2 x a c1 T1 y b (c2 : Int) T2 w gx (by omega) (by omega) hcl h)
                rw [hgz] at HR
                have hsu' : Hid (ppRun a b f (m + 1) = ⟨(stp x (evK z) (evN z b)).1, y, q', qy ++ tl12 (stp x (evK z) (evN z b)).2⟩) := by rw [Hid, hsu]; rfl
                have lt := tl12_len (stp x (evK z) (evN z b)).2
                generalize stp x (evK z) (evN z b) = RR at *
                clear hsu hT k0 gx gy hf' hgz
                go_wp2_with fail
                refine (HR.out _ hPI).mono ?_
                rintro e w5 ⟨rfl, h5, k5⟩
                go_wp2_with fail
                refine ⟨⟨m + 1, by omega, by go_num, ?_⟩, by simp [intOf]; omega⟩
                unfold PjR
                rw [hsu'.out]
                exact ⟨hf2.out, T1, _, c1 + 1, c2, by rw [Int.natCast_add]; exact h5, hnx, by rw [List.drop_append_of_le_length hc2, t2], hcl, by rw [List.length_append]; omega, by omega, by rw [List.length_append]; omega, MA.onlyP k5 nA, MB.onlyP k5 nB, below_offP dr k5 nW⟩
            · have k1' : (f m == 1) = false := by simp [k1]
              by_cases k2 : f m = 2
              · rw [show ppStep a b (f m) ⟨x, y, qx, qy⟩ = ppY a ⟨x, y, qx, qy⟩ by unfold ppStep; rw [if_neg k0, if_neg k1]] at hsu
                rw [k2] at fm
                have hf2 : Hid (∀ i, i < m + 1 → f i = 0 ∨ f i = 1 ∨ f i = 2) := fun i hi => by
                  by_cases e : i = m
                  · subst e; exact .inr (.inr k2)
                  · exact hf'.out i (by omega)
                cases qy with
                | nil =>
                  have hce := drop_none t2 hc2
                  subst hce
                  have HR := hide (fun w h => i_hears0 base b2 b1 y b T2 x a (c1 : Int) T1 w (by omega) h)
                  have hsu' : Hid (ppRun a b f (m + 1) = ⟨x, y, qx, []⟩) := by rw [Hid, hsu]; rfl
                  clear hsu hT k0 gx gy hf'
                  go_wp2_with fail
                  refine (HR.out _ hPI.symm).mono ?_
                  rintro e w5 ⟨rfl, hw5⟩
                  rw [hw5]; clear hw5 w5
                  go_wp2_with fail
                  refine ⟨⟨m + 1, by omega, by go_num, ?_⟩, by simp [intOf]; omega⟩
                  unfold PjR
                  rw [hsu'.out]
                  exact ⟨hf2.out, T1, T2, c1, T2.length, hPI, t1, t2, hc1, hc2, by omega, by omega, MA, MB, dr⟩
                | cons z q' =>
                  obtain ⟨hcl, hgz, hnx⟩ := drop_next t2
                  have HR := hide (fun w h => i_hears1 base b2 b1 y b c2 T2 x a (c1 : Int) T1 w gy (by omega) (by omega) hcl h)
                  rw [hgz] at HR
                  have hsu' : Hid (ppRun a b f (m + 1) = ⟨x, (stp y (evK z) (evN z a)).1, qx ++ tl12 (stp y (evK z) (evN z a)).2, q'⟩) := by rw [Hid, hsu]; rfl
                  have lt := tl12_len (stp y (evK z) (evN z a)).2
                  generalize stp y (evK z) (evN z a) = RR at *
                  clear hsu hT k0 gx gy hf' hgz
                  go_wp2_with fail
                  refine (HR.out _ hPI.symm).mono ?_
                  rintro e w5 ⟨rfl, h5, k5⟩
                  replace k5 : PK base b1 b2 _ w5 := k5.mono (fun j _ hj => by rcases hj with e | e | e; exact .inr (.inl e); exact .inl e; exact .inr (.inr e))
                  go_wp2_with fail
                  refine ⟨⟨m + 1, by omega, by go_num, ?_⟩, by simp [intOf]; omega⟩
                  unfold PjR
                  rw [hsu'.out]
                  exact ⟨hf2.out, _, T2, c1, c2 + 1, by rw [Int.natCast_add]; exact h5.symm, by rw [List.drop_append_of_le_length hc1, t1], hnx, by rw [List.length_append]; omega, hcl, by rw [List.length_append]; omega, by omega, MA.onlyP k5 nA, MB.onlyP k5 nB, below_offP dr k5 nW⟩
              · have k2' : (f m == 2) = false := by simp [k2]
                have hN : ¬ PqOk a b n f := fun g => by rcases g.2.2.2 m hlt with h | h | h <;> contradiction
                have d1 := dr
                have u0 := MA.2.1 0 _ rfl
                have uf0 := MA.2.2 0 (by simp)
                have v0 := MB.2.1 0 _ rfl
                have vf0 := MB.2.2 0 (by simp)
                have u1 := MA.2.1 1 _ rfl
                have uf1 := MA.2.2 1 (by simp)
                have v1 := MB.2.1 1 _ rfl
                have vf1 := MB.2.2 1 (by simp)
                have u2 := MA.2.1 2 _ rfl
                have uf2 := MA.2.2 2 (by simp)
                have v2 := MB.2.1 2 _ rfl
                have vf2 := MB.2.2 2 (by simp)
                have u3 := MA.2.1 3 _ rfl
                have uf3 := MA.2.2 3 (by simp)
                have v3 := MB.2.1 3 _ rfl
                have vf3 := MB.2.2 3 (by simp)
                have u4 := MA.2.1 4 _ rfl
                have uf4 := MA.2.2 4 (by simp)
                have v4 := MB.2.1 4 _ rfl
                have vf4 := MB.2.2 4 (by simp)
                generalize f m = fv at *
                clear hPI MA MB dr hsu hT gx gy
                go_wp2_with fail
                refine bodyPost_ret (v := .tuple #[(⟨0, 0, 0, 0, 0⟩ : Se).v, (⟨0, 0, 0, 0, 0⟩ : Se).v, .bool false]) (by simp [results, Try.results5, go_sem, u0, u1, u2, u3, u4, v0, v1, v2, v3, v4]) rfl ?_
                rw [(pq_f hN).1, (pq_f hN).2.1, (pq_f hN).2.2]
                exact ⟨rfl, (by (repeat (first | with_reducible exact Below.refl _ _ | with_reducible exact d1 | with_reducible apply Below.setCell | with_reducible apply Below.alloc | with_reducible apply Below.drew | with_reducible refine below_drewN ?_ _)); all_goals (first | (simp; done) | (simp; omega) | omega))⟩
        · have hlt' : ¬ (m : Int) < (n : Int) := by omega
          have hmn : m = n := by omega
          subst hmn
          have hY : PqOk a b m f := ⟨ca, cb, cn, hf'.out⟩
          have d1 := dr
          obtain ⟨x0, x1, x2, x3, x4⟩ := x
          obtain ⟨y0, y1, y2, y3, y4⟩ := y
          obtain ⟨i1, i2, i3, i4, vv1, vv2, mm1, mm2, _, _, _⟩ := hPI
          have u0 := MA.2.1 0 _ rfl
          have uf0 := MA.2.2 0 (by simp)
          have v0 := MB.2.1 0 _ rfl
          have vf0 := MB.2.2 0 (by simp)
          have u1 := MA.2.1 1 _ rfl
          have uf1 := MA.2.2 1 (by simp)
          have v1 := MB.2.1 1 _ rfl
          have vf1 := MB.2.2 1 (by simp)
          have u2 := MA.2.1 2 _ rfl
          have uf2 := MA.2.2 2 (by simp)
          have v2 := MB.2.1 2 _ rfl
          have vf2 := MB.2.2 2 (by simp)
          have u3 := MA.2.1 3 _ rfl
          have uf3 := MA.2.2 3 (by simp)
          have v3 := MB.2.1 3 _ rfl
          have vf3 := MB.2.2 3 (by simp)
          have u4 := MA.2.1 4 _ rfl
          have uf4 := MA.2.2 4 (by simp)
          have v4 := MB.2.1 4 _ rfl
          have vf4 := MB.2.2 4 (by simp)
          have e0 := mm1.2.1 0 _ rfl
          have e1 := mm1.2.1 1 _ rfl
          have e2 := mm1.2.1 2 _ rfl
          have e3 := mm1.2.1 3 _ rfl
          have e4 := mm1.2.1 4 _ rfl
          have g0 := mm2.2.1 0 _ rfl
          have g1 := mm2.2.1 1 _ rfl
          have g2 := mm2.2.1 2 _ rfl
          have g3 := mm2.2.1 3 _ rfl
          have g4 := mm2.2.1 4 _ rfl
          clear mm1 mm2 MA MB dr hsu gx gy hR
          go_wp2_with fail
          go_region
          all_goals go_wp2_with fail
          all_goals refine bodyPost_ret (v := .tuple #[(⟨x0, x1, x2, x3, x4⟩ : Se).v, (⟨y0, y1, y2, y3, y4⟩ : Se).v, .bool true]) (by simp [results, Try.results5, go_sem, u0, u1, u2, u3, u4, v0, v1, v2, v3, v4]) rfl ?_
          all_goals rw [(pq_t hY).1, (pq_t hY).2.1, (pq_t hY).2.2, hT]
          all_goals exact ⟨rfl, (by (repeat (first | with_reducible exact Below.refl _ _ | with_reducible exact d1 | with_reducible apply Below.setCell | with_reducible apply Below.alloc | with_reducible apply Below.drew | with_reducible refine below_drewN ?_ _)); all_goals (first | (simp; done) | (simp; omega) | omega))⟩
  · have hN : ¬ PqOk a b n f := fun g => hOk ⟨g.1, g.2.1, g.2.2.1⟩
    rw [(pq_f hN).1, (pq_f hN).2.1, (pq_f hN).2.2]
    have hg : Hid (¬ (newB a = true ∧ newB b = true ∧ n ≤ 100)) := fun g => hOk ⟨of_decide_eq_true g.1, of_decide_eq_true g.2.1, g.2.2⟩
    clear hN hOk hR
    generalize newS a = XA at *
    generalize newB a = ga at *
    generalize newS b = XB at *
    generalize newB b = gb at *
    obtain ⟨x0, x1, x2, x3, x4⟩ := XA
    obtain ⟨y0, y1, y2, y3, y4⟩ := XB
    go_enter Try.func5, Try.ntmps5
    go_upto_region 1 with fail
    generalize (w.alloc (.cells #[.int .i64 0, .int .i64 0, .int .i64 0, .int .i64 0, .int .i64 0] 27)).alloc (.cells #[.int .i64 0, .int .i64 0, .int .i64 0, .int .i64 0, .int .i64 0] 27) = wz at *
    go_wp2_with fail
    refine (SA.out _).mono ?_
    rintro e w1 ⟨rfl, b1'⟩
    have bA : Below w1.heap.size w1 (w1.alloc (.cells #[.int .i64 x0, .int .i64 x1, .int .i64 x2, .int .i64 x3, .int .i64 x4] 27)) := below_box (Below.refl _ _)
    replace MA := (MA.below b1').below bA
    replace MB := (MB.below b1').below bA
    replace dd := (dd.trans (b1'.mono dd.size)).trans (bA.mono (Nat.le_trans dd.size b1'.size))
    clear b1' bA
    go_upto_region 2 with fail
    generalize w1.alloc (.cells #[.int .i64 x0, .int .i64 x1, .int .i64 x2, .int .i64 x3, .int .i64 x4] 27) = wA at *
    go_wp2_with fail
    refine (SB.out _).mono ?_
    rintro e w2 ⟨rfl, b2'⟩
    have bB : Below w2.heap.size w2 (w2.alloc (.cells #[.int .i64 y0, .int .i64 y1, .int .i64 y2, .int .i64 y3, .int .i64 y4] 27)) := below_box (Below.refl _ _)
    replace MA := (MA.below b2').below bB
    replace MB := (MB.below b2').below bB
    replace dd := (dd.trans (b2'.mono dd.size)).trans (bB.mono (Nat.le_trans dd.size b2'.size))
    clear b2' bB SA SB s1
    go_upto_region 3 with fail
    generalize w2.alloc (.cells #[.int .i64 y0, .int .i64 y1, .int .i64 y2, .int .i64 y3, .int .i64 y4] 27) = wB at *
    have d1 := dd
    have u0 := MA.2.1 0 _ rfl
    have uf0 := MA.2.2 0 (by simp)
    have v0 := MB.2.1 0 _ rfl
    have vf0 := MB.2.2 0 (by simp)
    have u1 := MA.2.1 1 _ rfl
    have uf1 := MA.2.2 1 (by simp)
    have v1 := MB.2.1 1 _ rfl
    have vf1 := MB.2.2 1 (by simp)
    have u2 := MA.2.1 2 _ rfl
    have uf2 := MA.2.2 2 (by simp)
    have v2 := MB.2.1 2 _ rfl
    have vf2 := MB.2.2 2 (by simp)
    have u3 := MA.2.1 3 _ rfl
    have uf3 := MA.2.2 3 (by simp)
    have v3 := MB.2.1 3 _ rfl
    have vf3 := MB.2.2 3 (by simp)
    have u4 := MA.2.1 4 _ rfl
    have uf4 := MA.2.2 4 (by simp)
    have v4 := MB.2.1 4 _ rfl
    have vf4 := MB.2.2 4 (by simp)
    clear MA MB dd
    cases ga with
    | false =>
      go_wp2_with fail
      exact bodyPost_ret (v := .tuple #[(⟨0, 0, 0, 0, 0⟩ : Se).v, (⟨0, 0, 0, 0, 0⟩ : Se).v, .bool false]) (by simp [results, Try.results5, go_sem, u0, u1, u2, u3, u4, v0, v1, v2, v3, v4]) rfl ⟨rfl, (by (repeat (first | with_reducible exact Below.refl _ _ | with_reducible exact d1 | with_reducible apply Below.setCell | with_reducible apply Below.alloc | with_reducible apply Below.drew | with_reducible refine below_drewN ?_ _)); all_goals (first | (simp; done) | (simp; omega) | omega))⟩
    | true =>
      cases gb with
      | false =>
        go_wp2_with fail
        exact bodyPost_ret (v := .tuple #[(⟨0, 0, 0, 0, 0⟩ : Se).v, (⟨0, 0, 0, 0, 0⟩ : Se).v, .bool false]) (by simp [results, Try.results5, go_sem, u0, u1, u2, u3, u4, v0, v1, v2, v3, v4]) rfl ⟨rfl, (by (repeat (first | with_reducible exact Below.refl _ _ | with_reducible exact d1 | with_reducible apply Below.setCell | with_reducible apply Below.alloc | with_reducible apply Below.drew | with_reducible refine below_drewN ?_ _)); all_goals (first | (simp; done) | (simp; omega) | omega))⟩
      | true =>
        have cn' : (n : Int) > 100 := by
          have := hg.out
          simp at this
          omega
        clear hg
        go_wp2_with fail
        exact bodyPost_ret (v := .tuple #[(⟨0, 0, 0, 0, 0⟩ : Se).v, (⟨0, 0, 0, 0, 0⟩ : Se).v, .bool false]) (by simp [results, Try.results5, go_sem, u0, u1, u2, u3, u4, v0, v1, v2, v3, v4]) rfl ⟨rfl, (by (repeat (first | with_reducible exact Below.refl _ _ | with_reducible exact d1 | with_reducible apply Below.setCell | with_reducible apply Below.alloc | with_reducible apply Below.drew | with_reducible refine below_drewN ?_ _)); all_goals (first | (simp; done) | (simp; omega) | omega))⟩
end Go.Proofs.Ytjfalfjadleegaa
