/- What the specification's l6Closed answers. -/
import Derived.Test.YtocgghhlfmgndaaS6ra
namespace Go.Proofs.Ytocgghhlfmgndaa
open Go.RowKit

def slN : Value → Nat
  | .slice _ n _ => n
  | _ => 0
/-- A rising list of states, in memory. -/
def HeldN (v : Value) (L : List Int) (w : World) : Prop := ∃ a c, v = .slice a L.length c ∧ L.length ≤ c ∧ SrcN .i64 a L c w ∧ UpN L ∧ InN L
theorem rnd_take {E : List Ed} {L : List Int} {k : Nat} (hk : k < E.length) : rndF (E.take (k + 1)) L = stepF (rndF (E.take k) L) (gAt E k) := by
  rw [List.take_add_one, List.getElem?_eq_getElem hk]
  simp only [rndF, Option.toList_some, List.foldl_append, List.foldl_cons, List.foldl_nil]
  congr 1
  simp [gAt, List.getElem?_eq_getElem hk]
set_option maxRecDepth 100000 in
set_option maxHeartbeats 6400000 in
theorem s_closed (s st en : Int) (ae : Option Addr) (ce : Nat) (E : List Ed) (v : Value) (L : List Int) (w : World) (hl : E.length ≤ 1048576) (hE : Tos E) (hR : RowG ae E w) (hH : HeldN v L w) :
    Calls Try.prog 88 #[.agg #[.int .i64 s, .int .i64 st, .int .i64 en, .slice ae E.length ce], v] w fun e w' => ∃ v', e = .returned v' ∧ HeldN v' (closF E L) w' ∧ Below w.heap.size w w' := by
  obtain ⟨a, c, rfl, hc, S, hu, hi⟩ := hH
  have M0 := Mut.new w #[.int .i64 s, .int .i64 st, .int .i64 en, .slice ae E.length ce] 79
  go_enter Try.func88, Try.ntmps88
  go_wp2_with fail
  go_loopw [1] (fun v wr => ∃ L1, HeldN v L1 wr ∧ Hid (closF E L1 = closF E L) ∧ Mut wr w.heap.size [.int .i64 s, .int .i64 st, .int .i64 en, .slice ae E.length ce] ∧ Below w.heap.size w wr) (fun v _ => 80 - slN v)
  case atStart => exact ⟨L, ⟨a, c, rfl, hc, S.below (below_box (Below.refl _ _)), hu, hi⟩, rfl, M0, below_box (Below.refl _ _)⟩
  case round =>
    clear S hu hi hc M0
    obtain ⟨L1, ⟨a1, c1, rfl, hc1, S1, hu1, hi1⟩, hcl, Mn, hbw⟩ := hrel
    have n3 := Mn.2.1 3 _ rfl
    go_wp2_with fail
    clear n3
    go_loopw [1, 13] (fun v y wr => ∃ k : Nat, y = .int .i64 k ∧ k ≤ E.length ∧ HeldN v (rndF (E.take k) L1) wr ∧ Mut wr w.heap.size [.int .i64 s, .int .i64 st, .int .i64 en, .slice ae E.length ce] ∧ Below w.heap.size w wr) (fun _ y _ => E.length - (intOf y).toNat)
    case atStart => exact ⟨0, rfl, Nat.zero_le _, ⟨a1, c1, rfl, hc1, S1, hu1, hi1⟩, Mn, hbw⟩
    case round =>
      clear S1 Mn hbw
      obtain ⟨k, rfl, hk, ⟨a2, c2, rfl, hc2, S2, hu2, hi2⟩, M2, hb2⟩ := hrel
      by_cases hlt : k < E.length
      · obtain ⟨b, off, rfl, hb, u0, u1, u2, u3, u4⟩ := hR k hlt
        replace u0 := (hb2.cell (p := ⟨b, off + k * 5, none⟩) hb).trans u0
        replace u1 := (hb2.cell (p := ⟨b, off + k * 5 + 1, none⟩) hb).trans u1
        replace u2 := (hb2.cell (p := ⟨b, off + k * 5 + 2, none⟩) hb).trans u2
        replace u3 := (hb2.cell (p := ⟨b, off + k * 5 + 3, none⟩) hb).trans u3
        replace u4 := (hb2.cell (p := ⟨b, off + k * 5 + 4, none⟩) hb).trans u4
        have hlt' : (k : Int) < (E.length : Int) := by omega
        have hstep := hide (rnd_take (L := L1) hlt)
        have hto := hide (hE _ (gAt_mem hlt))
        have hln := in_len hu2 hi2
        generalize rndF (E.take k) L1 = L2 at *
        generalize gAt E k = ed at *
        obtain ⟨x, y, f, bb, n⟩ := ed
        simp only at u0 u1 u2 u3 u4
        have HA := hide (fun w R => s_l1Has a2 L2 c2 x w (by omega) R)
        have PU := hide (fun w R => s_l1Put a2 L2 c2 y w (by omega) hc2 R)
        have hU := hide (And.intro hu2 hi2)
        have hC := hide hc2
        clear hln hu2 hi2 hu1 hi1 hc2
        cases f with
        | false =>
          have M2' := hide (M2.alloc (.cells #[.int .i64 x, .int .i64 y, .bool false, .bool bb, .int .i64 n] 149))
          have dE := hide (hb2.alloc hb2.size (.cells #[.int .i64 x, .int .i64 y, .bool false, .bool bb, .int .i64 n] 149))
          have S2' := hide (S2.below (below_box (Below.refl _ _) : Below _ _ (World.alloc _ (.cells #[.int .i64 x, .int .i64 y, .bool false, .bool bb, .int .i64 n] 149))))
          have hs2 : Hid (rndF (E.take (k + 1)) L1 = L2) := hstep.out.trans (by simp [stepF])
          clear M2 S2 hb2
          go_wp2_with fail
          exact ⟨⟨k + 1, by go_num, by omega, by rw [hs2.out]; exact ⟨a2, c2, rfl, hC.out, S2'.out, hU.out.1, hU.out.2⟩, M2'.out, dE.out⟩, by simp [intOf]; omega⟩
        | true =>
          have M2' := hide (M2.alloc (.cells #[.int .i64 x, .int .i64 y, .bool true, .bool bb, .int .i64 n] 149))
          have dE := hide (hb2.alloc hb2.size (.cells #[.int .i64 x, .int .i64 y, .bool true, .bool bb, .int .i64 n] 149))
          have S2' := hide (S2.below (below_box (Below.refl _ _) : Below _ _ (World.alloc _ (.cells #[.int .i64 x, .int .i64 y, .bool true, .bool bb, .int .i64 n] 149))))
          clear M2 S2 hb2
          cases hh : hasN L2 x with
          | false =>
            rw [hh] at HA
            have hs2 : Hid (rndF (E.take (k + 1)) L1 = L2) := hstep.out.trans (by simp [stepF, hh])
            clear hh
            go_wp2_with fail
            refine (HA.out _ S2'.out.1).mono ?_
            rintro e w_ ⟨rfl, hw_⟩
            rw [hw_]
            clear hw_ w_
            go_wp2_with fail
            exact ⟨⟨k + 1, by go_num, by omega, by rw [hs2.out]; exact ⟨a2, c2, rfl, hC.out, S2'.out, hU.out.1, hU.out.2⟩, M2'.out, dE.out⟩, by simp [intOf]; omega⟩
          | true =>
            rw [hh] at HA
            have hs2 : Hid (rndF (E.take (k + 1)) L1 = putN L2 y) := hstep.out.trans (by simp [stepF, hh])
            clear hh
            go_wp2_with fail
            refine (HA.out _ S2'.out.1).mono ?_
            rintro e w_ ⟨rfl, hw_⟩
            rw [hw_]
            clear hw_ w_
            go_wp2_with fail
            refine (PU.out _ S2'.out).mono ?_
            rintro e w3 ⟨a3, c3, rfl, hc3, S3, b3⟩
            go_wp2_with fail
            exact ⟨⟨k + 1, by go_num, by omega, by rw [hs2.out]; exact ⟨a3, c3, rfl, hc3, S3, up_put _ hU.out.1, in_put hU.out.2 hto.out⟩, M2'.out.below b3, dE.out.trans (b3.mono dE.out.size)⟩, by simp [intOf]; omega⟩
      · have hlt' : ¬ (k : Int) < (E.length : Int) := by omega
        rw [List.take_of_length_le (by omega)] at hc2 S2 hu2 hi2 ⊢
        by_cases hq : (rndF E L1).length = L1.length
        · have hS : Hid (closF E L = rndF E L1) := by
            rw [← hcl.out, closF_stop hq]; exact (rndF_same hq).symm
          have hA : Hid (HeldN (.slice a2 (rndF E L1).length c2) (closF E L) wr) := by
            rw [hS.out]; exact ⟨a2, c2, rfl, hc2, S2, hu2, hi2⟩
          rw [hq] at hA ⊢
          clear hS hq S2 hu2 hi2 hc2 hcl hu1 hi1 hc1
          go_wp2_with fail
          go_ret
          exact ⟨_, rfl, hA.out, hb2⟩
        · have hq' : (((rndF E L1).length : Int) == (L1.length : Int)) = false := by simp; omega
          have hA : Hid (HeldN (.slice a2 (rndF E L1).length c2) (rndF E L1) wr) := ⟨a2, c2, rfl, hc2, S2, hu2, hi2⟩
          have hcl2 : Hid (closF E (rndF E L1) = closF E L) := (closF_go hE hu1 hi1 hq).symm.trans hcl.out
          have hm : Hid (80 - (rndF E L1).length < 80 - L1.length) := by
            have h1 := in_len hu2 hi2
            rcases rndF_len E L1 with e | e
            · exact absurd (by rw [e]) hq
            · show _ < _
              omega
          clear hq S2 hu2 hi2 hc2 hcl hu1 hi1 hc1
          generalize rndF E L1 = L3 at *
          go_wp2_with fail
          exact ⟨⟨L3, hA.out, hcl2, M2, hb2⟩, hm.out⟩
end Go.Proofs.Ytocgghhlfmgndaa
