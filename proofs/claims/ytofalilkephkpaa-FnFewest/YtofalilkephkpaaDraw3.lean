/- What the specification's cursor draws of chapter 3's inputs. -/
import Derived.Test.YtofalilkephkpaaDraw1
import Derived.Test.YtofalilkephkpaaS3b
import Derived.Test.YtofalilkephkpaaGrow3
namespace Go.Proofs.Ytofalilkephkpaa
open Go.RowKit

theorem d_one (c : Nat) (v : Value) (len n : Nat) (k : Int) (w : World) (hn : n ≤ 900000) (hk : k ≤ 1000000000) (hcur : Cur c v n w) (hby : BytesAt c w v len) :
    Calls Try.prog 87 #[.pointer (some ⟨c, 0, none⟩), .int .i64 k] w fun e w' =>
      ∃ r : Bool, e = .returned (.bool r) ∧ Cur c v (n + 2) w' ∧ Only c w w' := by
  have s1 := hide (fun w hc hb => d_pick c v len n k w hn hk hc hb)
  go_enter Try.func87, Try.ntmps87
  go_wp2_with fail
  refine (s1.out _ hcur hby).mono ?_
  rintro e w1 ⟨r, _, _, rfl, hc, ho⟩
  go_wp2_with fail
  go_ret
  exact ⟨_, rfl, hc, ho⟩
theorem nums8a (w : World) (t : TypeId) : NumsAt w.heap.size 0 8 (fun z => -1 ≤ z ∧ z ≤ 4294967296) (w.alloc (.cells #[.int .i64 0, .int .i64 167772165, .int .i64 167837705, .int .i64 3232235527, .int .i64 4294967295, .int .i64 2147483648, .int .i64 (-1), .int .i64 4294967296] t)) := by
  refine ⟨by simp, fun j hj => ?_⟩
  obtain rfl | rfl | rfl | rfl | rfl | rfl | rfl | rfl : j = 0 ∨ j = 1 ∨ j = 2 ∨ j = 3 ∨ j = 4 ∨ j = 5 ∨ j = 6 ∨ j = 7 := by omega
  all_goals exact ⟨_, by simp [go_sem]; rfl, by omega, by omega⟩
theorem d_addr (c : Nat) (v : Value) (len n : Nat) (w : World) (hn : n ≤ 900000) (hcur : Cur c v n w) (hby : BytesAt c w v len) :
    Calls Try.prog 96 #[.pointer (some ⟨c, 0, none⟩)] w fun e w' =>
      ∃ r : Int, (-1 ≤ r ∧ r ≤ 4294967296) ∧ e = .returned (.int .i64 r) ∧ Cur c v (n + 2) w' ∧ Only c w w' := by
  have hcw : c < w.heap.size := by obtain ⟨p, s, h0, h1, hc, _⟩ := hcur; exact hc
  go_enter Try.func96, Try.ntmps96
  go_wp2_with fail
  have o0 : ∀ o : Obj, Only c w (w.alloc o) := fun o => (Only.refl c w).alloc o
  refine (d_among c v len n w.heap.size 0 8 8 (fun z => -1 ≤ z ∧ z ≤ 4294967296) _ (by omega) (by omega) (by omega) (cur_below hcur (below_box (Below.refl _ _))) (hby.only (o0 _) (Nat.le_refl _)) (nums8a w _) (by omega)).mono ?_
  rintro e w1 ⟨r, hr, rfl, hc1, ho1⟩
  have hO1 := (o0 _).trans ho1
  go_wp2_with fail
  go_ret
  exact ⟨_, hr, rfl, hc1, hO1⟩
set_option maxRecDepth 100000 in
theorem d_fine (c : Nat) (v : Value) (len n : Nat) (w : World) (hn : n ≤ 800000) (hcur : Cur c v n w) (hby : BytesAt c w v len) :
    Calls Try.prog 168 #[.pointer (some ⟨c, 0, none⟩)] w fun e w' =>
      ∃ p : Pf, gdP p ∧ e = .returned (.agg #[.int .i64 p.1, .int .i64 p.2]) ∧ Cur c v (n + 8) w' ∧ Only c w w' := by
  have hcw : c < w.heap.size := by obtain ⟨p, s, h0, h1, hc, _⟩ := hcur; exact hc
  have s1 := hide (fun w hc hb => d_prefix c v len n w hn hc hb)
  have s2 := hide (fun a l w => s_good a l w)
  have h1 := cur_below hcur (below_box (o := .cells #[.int .i64 0, .int .i64 0] 34) (Below.refl _ _))
  have h2 := hby.only ((Only.refl c w).alloc (.cells #[.int .i64 0, .int .i64 0] 34)) (Nat.le_refl _)
  have hO := (Only.refl c w).alloc (.cells #[.int .i64 0, .int .i64 0] 34)
  have hB : Bk (w.alloc (.cells #[.int .i64 0, .int .i64 0] 34)) w.heap.size #[.int .i64 0, .int .i64 0] 34 := Bk.new w _ _
  have hsz : (w.alloc (.cells #[.int .i64 0, .int .i64 0] 34)).heap.size = w.heap.size + 1 := by simp
  clear hcur hby
  go_enter Try.func168, Try.ntmps168
  go_wp2_with fail
  generalize w.alloc (.cells #[.int .i64 0, .int .i64 0] 34) = W0 at *
  refine (s1.out _ h1 h2).mono ?_
  rintro e w1 ⟨a, l, rfl, hc1, ho1⟩
  have hB1 : Bk w1 w.heap.size #[.int .i64 0, .int .i64 0] 34 := (ho1.2.2.2.2 _ hB.lt (by omega)).trans hB
  have hO1 := hO.trans ho1
  clear hB ho1 hO h1 h2 s1
  go_wp2_with fail
  refine (s2.out _ _ _).mono ?_
  rintro e w2 ⟨rfl, hb2⟩
  have hb2' := below_box hb2
  have hB2 := hB1.below hb2'
  have hP2 := (Bk.new w1 #[.int .i64 a, .int .i64 l] 34).below hb2
  have hc2 := cur_below hc1 hb2'
  have hO2 := hO1.trans (Only.of_below (c := c) hb2')
  have c0 := (hB2.cell 0).trans (show _ = some (.int .i64 0) from rfl)
  have c1 := (hB2.cell 1).trans (show _ = some (.int .i64 0) from rfl)
  have f0 := bk_frozen hB2 0
  have f1 := bk_frozen hB2 1
  have q0 := (hP2.cell 0).trans (show _ = some (.int .i64 a) from rfl)
  have q1 := (hP2.cell 1).trans (show _ = some (.int .i64 l) from rfl)
  have hlt := hB1.lt
  cases hg : goodB a l with
  | true =>
    go_wp2_with fail
    refine bodyPost_ret (v := .agg #[.int .i64 a, .int .i64 l]) (by simp [results, Try.results168, go_sem, c0, c1]) rfl ⟨(a, l), hg, rfl, ?_, ?_⟩
    · exact cur_only hc2 (((Only.refl w.heap.size _).setCell 0 _).setCell 1 _) (by omega)
    · exact (hO2.setNew (Nat.le_refl _) 0 _).setNew (Nat.le_refl _) 1 _
  | false =>
    go_wp2_with fail
    refine bodyPost_ret (v := .agg #[.int .i64 167772160, .int .i64 8]) (by simp [results, Try.results168, go_sem, c0, c1]) rfl ⟨(167772160, 8), (show goodB 167772160 8 = true by decide), rfl, ?_, ?_⟩
    · exact cur_only hc2 (((Only.refl w.heap.size _).setCell 0 _).setCell 1 _) (by omega)
    · exact (hO2.setNew (Nat.le_refl _) 0 _).setNew (Nat.le_refl _) 1 _
end Go.Proofs.Ytofalilkephkpaa
