/- A link put behind the others. -/
import Derived.Test.YtelehmkmdbhcfaaLnk9
import Derived.Deep.RegionLaw
namespace Go.Proofs.Ytelehmkmdbhcfaa
open Go.RowKit

theorem infoLnk : (Try.prog.info? 65).map (fun i => (i.zero, i.size, i.bytes)) = some (some (.agg #[.int .i64 0, .int .i64 0, .nilFunc]), 3, 24) := by kernel_rfl
theorem aggLnk : AggT Try.prog 54 65 (.agg #[.int .i64 0, .int .i64 0, .nilFunc]) 3 24 := ⟨Try.underlying54, infoLnk, rfl, by decide⟩
set_option maxRecDepth 100000 in
set_option maxHeartbeats 3200000 in
theorem i_addLnk (bL base n : Nat) (v : Value) (xs : List Value) (lf lt : Int) (pk : Nat) (w : World) (hn : n ≤ 1000000) (hbL : bL < base) (hbw : base ≤ w.heap.size) (hM : Mut w bL [v]) (hown : OwnW 65 3 base v n xs w) :
    Calls Try.prog 43 #[.pointer (some ⟨bL, 0, none⟩), .agg #[.int .i64 lf, .int .i64 lt, labV pk]] w fun e w' => e = .returned (.tuple #[]) ∧ AddW 65 3 bL base (n + 1) v (xs ++ [.int .i64 lf, .int .i64 lt, labV pk]) w w' := by
  obtain ⟨va, vc, rfl, _, _⟩ := ownW_row hown
  simp only [labV] at *
  have dA : Below w.heap.size w (w.alloc (.cells #[.int .i64 lf, .int .i64 lt, .func (.func 56) #[] #[.pointer (some ⟨pk, 0, none⟩)]] 65)) := below_box (Below.refl _ _)
  have MA := Mut.new w #[.int .i64 lf, .int .i64 lt, .func (.func 56) #[] #[.pointer (some ⟨pk, 0, none⟩)]] 65
  have hownA := ownW_below hown dA
  have hbsA : base ≤ (w.alloc (.cells #[.int .i64 lf, .int .i64 lt, .func (.func 56) #[] #[.pointer (some ⟨pk, 0, none⟩)]] 65)).heap.size := Nat.le_trans hbw dA.size
  have hMA := hM.below dA
  have hlen : Hid (n + 1 ≤ 8589934593) := by show _ ≤ _; omega
  have h1c : Hid (∀ u ∈ ([.int .i64 lf, .int .i64 lt, .func (.func 56) #[] #[.pointer (some ⟨pk, 0, none⟩)]] : List Value), u.oneCell' = true) := fun u hu => by
    simp only [List.mem_cons, List.not_mem_nil, or_false] at hu
    rcases hu with rfl | rfl | rfl <;> rfl
  have hob : ∀ k, (Value.slice va n vc).ownBlock = some k → base ≤ k ∧ k < w.heap.size := fun k hk => ownW_lt hown hk
  clear hM hown
  go_enter Try.func43, Try.ntmps43
  go_wp2_with fail
  generalize w.alloc (.cells #[.int .i64 lf, .int .i64 lt, .func (.func 56) #[] #[.pointer (some ⟨pk, 0, none⟩)]] 65) = wA at *
  have hx0 : w.heap.size < wA.heap.size := MA.1
  generalize hbx : w.heap.size = bx at *
  have c0 := hMA.2.1 0 _ rfl
  have f0 := hMA.2.2 0 (by simp)
  have l0 := MA.2.1 0 _ rfl
  have l1 := MA.2.1 1 _ rfl
  have l2 := MA.2.1 2 _ rfl
  have bL1 : bL < wA.heap.size := hMA.1
  have dB : Below wA.heap.size wA (wA.alloc (.cells #[.int .i64 lf, .int .i64 lt, .func (.func 56) #[] #[.pointer (some ⟨pk, 0, none⟩)]] 65)) := below_box (Below.refl _ _)
  have c1 : ∀ o k, (wA.alloc o).cell? ⟨bL, k, none⟩ = wA.cell? ⟨bL, k, none⟩ := fun o k => old1 bL1 o k
  have hownB := ownW_below hownA dB
  have RB := RowW.mut (Mut.new wA #[.int .i64 lf, .int .i64 lt, .func (.func 56) #[] #[.pointer (some ⟨pk, 0, none⟩)]] 65)
  have MB := hMA.below dB
  have MXB := MA.below dB
  have hnb : ¬ ((Value.slice va n vc).ownBlock = some bx) := fun h => by have := (hob _ h).2; omega
  have hnL : ¬ ((Value.slice va n vc).ownBlock = some bL) := fun h => by have := (hob _ h).1; omega
  have hbsB : base ≤ (wA.alloc (.cells #[.int .i64 lf, .int .i64 lt, .func (.func 56) #[] #[.pointer (some ⟨pk, 0, none⟩)]] 65)).heap.size := Nat.le_trans hbsA dB.size
  go_region_law
    (first
      | (refine step_appW aggLnk (by rfl) _ _ (by rfl) base (.slice va n vc) n xs (by rfl) (by first | exact hownB | exact ownW_below hownB (Below.refl _ _).drew) wA.heap.size 0 1 1 [.int .i64 lf, .int .i64 lt, .func (.func 56) #[] #[.pointer (some ⟨pk, 0, none⟩)]] (by rfl) (by rfl) (by first | exact RB | exact RB.below (Below.refl _ _).drew) h1c.out hlen.out (by decide) hbsB ?_; intro v' w' hw1 hw2 hw3 hw4; obtain ⟨va', vc', rfl, _, _⟩ := ownW_row hw1; have on1 := OnlyP.of_grown hw3 (P := fun k => (Value.slice va n vc).ownBlock = some k) (fun k hk => hk); have MX' := Mut.onlyP (b := bx) (by first | exact MXB | exact MXB.drew) on1 hnb; have ML' := Mut.onlyP (b := bL) (by first | exact MB | exact MB.drew) on1 hnL; have k0 := ML'.2.1 0 _ rfl; have k1 := ML'.2.2 0 (by simp); have j0 := MX'.2.1 0 _ rfl; have j1 := MX'.2.1 1 _ rfl; have j2 := MX'.2.1 2 _ rfl))
  all_goals
    go_end0
    refine ⟨rfl, _, ML'.set 0 (.slice va' (n + 1) vc'), ownW_only hw1 ((Only.refl bL w').setCell 0 _) (fun e => ?_), ?_, ?_⟩
    · have := (ownW_lt hw1 e).1
      omega
    · refine OnlyP.trans (b := w') ?_ (OnlyP.of_only ((Only.refl bL w').setCell 0 _) (.inl rfl))
      refine OnlyP.trans (b := wA) (OnlyP.of_below (by rw [hbx]; exact dA)) ?_
      refine OnlyP.trans (by first | exact OnlyP.of_below dB | exact OnlyP.of_below dB.drew) (on1.mono fun k _ hk => .inr hk)
    · rcases hw4 with e | e
      · exact .inl e
      · exact .inr ⟨_, by have := dA.size; have h2 := dB.size; rw [hbx]; first | exact Nat.le_trans this h2 | (simp at *; omega), e⟩
end Go.Proofs.Ytelehmkmdbhcfaa
