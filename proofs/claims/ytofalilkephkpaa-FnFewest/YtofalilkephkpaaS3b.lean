/- What the specification's l3Put, l3Fewest and FewestOf answer. -/
import Derived.Test.YtofalilkephkpaaS3
namespace Go.Proofs.Ytofalilkephkpaa
open Go.RowKit

theorem s_putF (f : Nat) : ∀ (base : Nat) (v : Value) (L : List Pf) (p : Pf) (w : World), base ≤ w.heap.size → OwnP base v L w → (∀ q, q ∈ L → gdP q) → gdP p → p.2 < f → L.length ≤ 8589934592 →
    Calls Try.prog 176 #[v, .agg #[.int .i64 p.1, .int .i64 p.2]] w fun e w' => ∃ v', e = .returned v' ∧ OwnP base v' (putF f L p) w' ∧ Below w.heap.size w w' := by
  induction f with
  | zero => intro base v L p w _ _ _ gp h; have := (gdP_parts gp).1; omega
  | succ f ih =>
    intro base v L p w hb ho hg gp hf hl
    cases hany : L.any (fun q => covP q p) with
    | true => rw [putF_any hany]; exact (s_put_any base v L p w ho hg gp hl hany).mono fun e w' ⟨he, hb'⟩ => ⟨v, he, ownP_below ho hb', hb'⟩
    | false => exact s_put_no f base v L p w hb ho hg gp hl hany (hide ih) (by omega)
theorem s_put (base : Nat) (v : Value) (L : List Pf) (p : Pf) (w : World) (hb : base ≤ w.heap.size) (ho : OwnP base v L w) (hg : ∀ q, q ∈ L → gdP q) (gp : gdP p) (hl : L.length ≤ 8589934592) :
    Calls Try.prog 176 #[v, .agg #[.int .i64 p.1, .int .i64 p.2]] w fun e w' => ∃ v', e = .returned v' ∧ OwnP base v' (putP L p) w' ∧ Below w.heap.size w w' :=
  s_putF 33 base v L p w hb ho hg gp (by have := (gdP_parts gp).2.1; show p.2 < (33 : Int); omega) hl

theorem few_take {L : List Pf} (hg : ∀ p, p ∈ L → gdP p) {k : Nat} (hk : k ≤ L.length) : (∀ q, q ∈ (L.take k).foldl putP [] → gdP q) ∧ ((L.take k).foldl putP []).length ≤ k := by
  obtain ⟨h1, _, h3⟩ := fold_put (L.take k) [] gs_nil (fun p hp => hg p (List.mem_of_mem_take hp))
  refine ⟨h1.gd, ?_⟩
  rw [List.length_take] at h3
  simp only [List.length_nil] at h3
  omega
set_option maxRecDepth 100000 in
set_option maxHeartbeats 1600000 in
theorem s_few (a : Option Addr) (cap : Nat) (L : List Pf) (w : World) (hl : L.length ≤ 4294967296) (hR : RowP a L w) (hg : ∀ p, p ∈ L → gdP p) :
    Calls Try.prog 93 #[.slice a L.length cap] w fun e w' => ∃ v, e = .returned v ∧ OwnP w.heap.size v (fewS L) w' ∧ Below w.heap.size w w' := by
  go_enter Try.func93, Try.ntmps93
  go_wp2_with fail
  go_loopw [3, 8] (fun o i wr => ∃ k : Nat, k ≤ L.length ∧ i = .int .i64 k ∧ OwnP w.heap.size o ((L.take k).foldl putP []) wr ∧ Below w.heap.size w wr) (fun _ i _ => L.length - (intOf i).toNat)
  case atStart => exact ⟨0, Nat.zero_le _, rfl, ownP_nil _ _, Below.refl _ _⟩
  case round =>
    obtain ⟨k, hk, rfl, hown, hb⟩ := hrel
    have hsr := hb.size
    by_cases hlt : k < L.length
    · obtain ⟨b, off, rfl, hbw, h0, h1⟩ := (hR.below hb) k hlt
      have hlt' : (k : Int) < (L.length : Int) := by omega
      obtain ⟨f1, f2⟩ := few_take hg hk
      have s1 := hide (fun base v w hb ho => s_put base v ((L.take k).foldl putP []) (pAt L k) w hb ho f1 (hg _ (pAt_mem hlt)) (by omega))
      have hN := hide (foldl_take putP [] hlt)
      clear hR hg f1 f2
      generalize (L.take k).foldl putP [] = T at *
      generalize hP : pAt L k = P at *
      clear hP
      obtain ⟨qa, ql⟩ := P
      dsimp only at *
      go_wp2_with fail
      refine (s1.out w.heap.size _ _ (by simp; omega) (ownP_below hown (below_box (Below.refl _ _)))).mono ?_
      rintro e w1 ⟨v1, rfl, ho1, hb1⟩
      have hb1' := below_box hb1
      go_wp2_with fail
      exact ⟨⟨k + 1, by omega, by go_num, (by rw [hN.out]; exact ho1), hb.trans (hb1'.mono hsr)⟩, by simp [intOf]; omega⟩
    · have hk' : k = L.length := by omega
      subst hk'
      rw [List.take_length] at hown
      clear hR
      go_wp2_with fail
      go_ret
      exact ⟨_, rfl, hown, hb⟩

theorem goodL_parts {L : List Pf} (h : goodL L = true) : (∀ p, p ∈ L → gdP p) ∧ L.length ≤ 64 := by
  unfold goodL at h
  rw [Bool.and_eq_true, decide_eq_true_eq] at h
  exact ⟨allGood_iff.1 h.1, h.2⟩
set_option maxRecDepth 100000 in
set_option maxHeartbeats 800000 in
theorem s_fewestOf_yes (a : Option Addr) (cap : Nat) (L : List Pf) (w : World) (hR : RowP a L w) (hg : goodL L = true) :
    Calls Try.prog 19 #[.slice a L.length cap] w fun e w' => ∃ v, e = .returned (.tuple #[v, .bool true]) ∧ OwnP w.heap.size v (fewS L) w' ∧ Below w.heap.size w w' := by
  obtain ⟨g1, g2⟩ := goodL_parts hg
  have s1 := hide (fun w hR => s_l3Good a cap L w (by omega) hR)
  rw [hg] at s1
  have s2 := hide (fun w hR => s_few a cap L w (by omega) hR g1)
  clear hg
  go_enter Try.func19, Try.ntmps19
  go_wp2_with fail
  refine (s1.out _ hR).mono ?_
  rintro e w1 ⟨rfl, hb1⟩
  go_wp2_with fail
  refine (s2.out _ (hR.below hb1)).mono ?_
  rintro e w2 ⟨v2, rfl, ho2, hb2⟩
  go_wp2_with fail
  refine bodyPost_ret (v := .tuple #[v2, .bool true]) (by simp [results, Try.results19, go_sem]) rfl ⟨_, rfl, ownP_base ho2 hb1.size, below_step hb1 hb2⟩
set_option maxRecDepth 100000 in
set_option maxHeartbeats 800000 in
theorem s_fewestOf_no (a : Option Addr) (cap : Nat) (L : List Pf) (w : World) (hl : L.length ≤ 8589934592) (hR : RowP a L w) (hg : goodL L = false) :
    Calls Try.prog 19 #[.slice a L.length cap] w fun e w' => e = .returned (.tuple #[.slice none 0 0, .bool false]) ∧ Below w.heap.size w w' := by
  have s1 := hide (fun w hR => s_l3Good a cap L w hl hR)
  rw [hg] at s1
  clear hg
  go_enter Try.func19, Try.ntmps19
  go_wp2_with fail
  refine (s1.out _ hR).mono ?_
  rintro e w1 ⟨rfl, hb1⟩
  go_wp2_with fail
  refine bodyPost_ret (v := .tuple #[.slice none 0 0, .bool false]) (by simp [results, Try.results19, go_sem]) rfl ⟨rfl, hb1⟩
end Go.Proofs.Ytofalilkephkpaa
