/- One command, of the program. -/
import Derived.Test.YtcfmnfoognopnaaI15k
import Derived.Test.YtcfmnfoognopnaaPlain15e
namespace Go.Proofs.Ytcfmnfoognopnaa
open Go.RowKit

set_option maxRecDepth 100000 in
set_option maxHeartbeats 1600000 in
theorem i_doCommand (a : Option Addr) (c : Nat) (D : List Lf) (bs : Bool) (n : Nat) (p : Nat → ByteArray) (v : ByteArray) (a1 : Option Addr) (c1 : Nat) (w : World) (hD : OkD D) (hcp : n ≤ c1) (hR : RowF true a D.length (TF D) w) (Q0 : RowStr a1 n p w) :
    Calls Try.prog 53 #[.slice a D.length c, .agg #[.bool bs, .slice a1 n c1, .string v]] w fun e w' => ∃ u, e = .returned (.tuple #[u, .bool (stepC ⟨bs, ⟨n, p, v⟩⟩ D).2]) ∧ ∃ L, LsF w.heap.size u L w' ∧ L.map (·.t) = (stepC ⟨bs, ⟨n, p, v⟩⟩ D).1 ∧ Below w.heap.size w w' := by
  have hl := hD.low
  have hN : D.length ≤ 1048576 := by have := hD.1; omega
  have SET := hide (fun w R Q => i_setAt a D.length c (TF D) a1 n c1 p v w hN hl hcp R Q)
  have DEL := hide (fun w R Q => i_deleteAt a D.length c (TF D) a1 n c1 p w hN hl R Q)
  have hs1 : Hid (bs = true → stepC ⟨bs, ⟨n, p, v⟩⟩ D = setA D.length (TF D) n p v) := fun h => if_pos h
  have hs2 : Hid (bs = false → v.toList = [] → stepC ⟨bs, ⟨n, p, v⟩⟩ D = delA D.length (TF D) n p) := fun h k => by
    unfold stepC; rw [if_neg (by simp [h]), if_pos k]
  have hs3 : Hid (bs = false → ¬ v.toList = [] → stepC ⟨bs, ⟨n, p, v⟩⟩ D = ([], false)) := fun h k => by
    unfold stepC; rw [if_neg (by simp [h]), if_neg k]
  generalize stepC ⟨bs, ⟨n, p, v⟩⟩ D = GA at *
  generalize hG1 : setA D.length (TF D) n p v = G1 at *
  generalize hG2 : delA D.length (TF D) n p = G2 at *
  clear hG1 hG2
  have M0 := Mut.new w #[.bool bs, .slice a1 n c1, .string v] 48
  have d0 : Below w.heap.size w (w.alloc (.cells #[.bool bs, .slice a1 n c1, .string v] 48)) := below_box (Below.refl _ _)
  replace hR := hR.below d0
  replace Q0 := Q0.below d0
  clear hl hN hD
  cases bs
  · by_cases kN : v.toList = []
    · have kE : v.toList.isEmpty = true := by simpa using kN
      have hE := hide (hs2.out rfl kN)
      clear SET hs1 hs2 hs3
      go_enter Try.func53, Try.ntmps53
      go_wp2_with fail
      generalize w.alloc (.cells #[.bool false, .slice a1 n c1, .string v] 48) = w1 at *
      refine (DEL.out _ hR Q0).mono ?_
      rintro e w2 ⟨u, rfl, L, hL, hm, b2⟩
      have d2 := below_step d0 b2
      go_wp2_with fail
      first
        | exact bodyPost_ret (v := .tuple #[u, .bool G2.2]) (by simp [results, Try.results53, go_sem]) rfl ⟨u, by rw [hE.out], L, hL.base d0.size, by rw [hE.out]; exact hm, d2⟩
        | (go_ret; exact ⟨u, by rw [hE.out], L, hL.base d0.size, by rw [hE.out]; exact hm, d2⟩)
    · have kE : v.toList.isEmpty = false := by simpa using kN
      have hE := hide (hs3.out rfl kN)
      clear SET DEL hs1 hs2 hs3
      go_enter Try.func53, Try.ntmps53
      go_wp2_with fail
      exact bodyPost_ret (v := .tuple #[.slice none 0 0, .bool GA.2]) (by rw [hE.out]; simp [results, Try.results53, go_sem]) rfl ⟨_, rfl, [], LsF.nil _ _, by rw [hE.out]; rfl, d0⟩
  · have hE := hide (hs1.out rfl)
    clear DEL hs1 hs2 hs3
    go_enter Try.func53, Try.ntmps53
    go_wp2_with fail
    generalize w.alloc (.cells #[.bool true, .slice a1 n c1, .string v] 48) = w1 at *
    refine (SET.out _ hR Q0).mono ?_
    rintro e w2 ⟨u, rfl, L, hL, hm, b2⟩
    have d2 := below_step d0 b2
    go_wp2_with fail
    first
      | exact bodyPost_ret (v := .tuple #[u, .bool G1.2]) (by simp [results, Try.results53, go_sem]) rfl ⟨u, by rw [hE.out], L, hL.base d0.size, by rw [hE.out]; exact hm, d2⟩
      | (go_ret; exact ⟨u, by rw [hE.out], L, hL.base d0.size, by rw [hE.out]; exact hm, d2⟩)
end Go.Proofs.Ytcfmnfoognopnaa
