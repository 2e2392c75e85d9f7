/- What the program's fewest and FewestOf answer. -/
import Derived.Test.YtofalilkephkpaaI3c
import Derived.Test.YtofalilkephkpaaI3d
import Derived.Test.YtofalilkephkpaaI3f
import Derived.Test.YtofalilkephkpaaS3b
namespace Go.Proofs.Ytofalilkephkpaa
open Go.RowKit

theorem push_take {U : List Pf} {k : Nat} (hk : k ≤ U.length) (hU : ∀ p, p ∈ U → gdP p) (hc : U.Pairwise befP) : (∀ q, q ∈ (U.take k).foldl pushR [] → gdP q) ∧ ((U.take k).foldl pushR []).length ≤ k := by
  obtain ⟨h1, _, h3⟩ := fold_push (U.take k) [] (by simpa using gs_nil) (fun p hp => hU p (List.mem_of_mem_take hp)) (hc.sublist (List.take_sublist _ _)) (by simp)
  refine ⟨fun q hq => h1.gd q (by simpa using hq), ?_⟩
  rw [List.length_take] at h3
  simp only [List.length_nil] at h3
  omega
/-- The sort of a list of one's own, empty or not. -/
theorem i_sortAny (base : Nat) (v : Value) (L : List Pf) (w : World) (hb : base ≤ w.heap.size) (hlen : L.length ≤ 4294967296) (ho : OwnP base v L w) (hg : ∀ p, p ∈ L → gdP p) :
    ∃ va vc, v = .slice va L.length vc ∧ Calls Try.prog 171 #[v, .func (.func 172) #[] #[]] w fun e w' =>
      e = .returned (.tuple #[]) ∧ ∃ S : List Pf, S.Perm L ∧ S.Pairwise (fun a b => ltP b a = false) ∧ S.length = L.length ∧ RowP va S w' ∧ Below base w w' := by
  by_cases h : L = []
  · subst h
    obtain ⟨va, vc, rfl, _⟩ := ownP_row ho
    refine ⟨va, vc, rfl, ?_⟩
    refine (Try.slices_SortFunc_none va vc _ w).mono ?_
    rintro e w' ⟨he, rfl⟩
    exact ⟨he, [], List.Perm.refl _, List.Pairwise.nil, rfl, RowP.nil _ _, Below.refl _ _⟩
  · obtain ⟨g, c, rfl, h1, h2⟩ := ownP_shape ho h
    exact ⟨_, _, rfl, i_sort base g c L w h1 hlen ho h2 hg⟩
set_option maxRecDepth 100000 in
set_option maxHeartbeats 3200000 in
theorem i_few (a : Option Addr) (cap : Nat) (L : List Pf) (w : World) (hl : L.length ≤ 4294967295) (hR : SrcP a L cap w) (hg : ∀ p, p ∈ L → gdP p) :
    Calls Try.prog 91 #[.slice a L.length cap] w fun e w' => ∃ v, e = .returned v ∧ OwnP w.heap.size v (fewS L) w' ∧ Below w.heap.size w w' := by
  have s0 := hide (fun w hR => i_clone a cap L w (by omega) hR)
  go_enter Try.func91, Try.ntmps91
  go_wp2_with fail
  refine (s0.out _ hR).mono ?_
  rintro e w1 ⟨v1, rfl, ho1, hb1⟩
  clear s0 hR
  obtain ⟨va, vc, rfl, hC⟩ := i_sortAny w.heap.size v1 L w1 hb1.size (by omega) ho1 hg
  have hC := hide hC
  clear ho1
  go_wp2_with fail
  refine hC.out.mono ?_
  rintro e w2 ⟨rfl, S, hp, hs, hlS, hr, hb2⟩
  have hbw := hb1.trans hb2
  have gS : ∀ q, q ∈ S → gdP q := fun q hq => hg q (hp.mem_iff.1 hq)
  have sP := hide (fun w hr => i_putInto none 0 [] va vc S w (by decide) (by omega) ⟨RowP.nil _ _, .inl ⟨rfl, rfl, rfl⟩⟩ hr (by simp) gS)
  rw [hlS] at sP
  simp only [List.length_nil] at sP
  have hF : Hid (((putI [] S).foldl pushR []).reverse = fewS L) := few_same hg hp hs
  have hU1 := (putI_facts S [] (by simp) gS).1
  have hU2 := putI_rising S [] (by simp) gS List.Pairwise.nil hs (by simp)
  have hU3 : (putI [] S).length ≤ L.length := by rw [← hlS]; exact (fewI_good gS hs).2.2.2
  clear hC hp hs hlS hg gS hb1 hb2
  (try go_end0)
  go_wp2_with fail
  refine (sP.out _ hr).mono ?_
  rintro e w3 ⟨v3, rfl, ho3, hb3⟩
  clear sP hr
  generalize putI [] S = U at *
  obtain ⟨ua, uc, rfl, hRU, _⟩ := ownP_row ho3
  have hbw3 := hbw.trans (hb3.mono hbw.size)
  clear ho3 hb3
  go_wp2_with fail
  go_loopw [4, 14] (fun o i wr => ∃ k : Nat, k ≤ U.length ∧ i = .int .i64 k ∧ OwnP w3.heap.size o ((U.take k).foldl pushR []).reverse wr ∧ Below w3.heap.size w3 wr) (fun _ i _ => U.length - (intOf i).toNat)
  case atStart => exact ⟨0, Nat.zero_le _, rfl, ownP_nil _ _, Below.refl _ _⟩
  case round =>
    obtain ⟨k, hk, rfl, hown, hb⟩ := hrel
    have hsr := hb.size
    by_cases hlt : k < U.length
    · obtain ⟨b, off, rfl, hbw2, h0, h1⟩ := (hRU.below hb) k hlt
      have hlt' : (k : Int) < (U.length : Int) := by omega
      obtain ⟨f1, f2⟩ := push_take hk hU1 hU2
      have gp := hU1 _ (pAt_mem hlt)
      have hN := hide (foldl_take pushR [] hlt)
      have s1 := hide (fun v w hb ho => i_joined w3.heap.size v ((U.take k).foldl pushR []) (pAt U k) w hb ho f1 gp (by omega))
      clear hRU hU1 hU2 f1 gp hF
      generalize (U.take k).foldl pushR [] = T at *
      have hTl : T.reverse.length = T.length := List.length_reverse
      generalize hP : pAt U k = P at *
      clear hP
      obtain ⟨qa, ql⟩ := P
      dsimp only at *
      go_wp2_with (first | (at_builtin; refine wpList_appP rfl _ _ rfl w3.heap.size _ T.reverse rfl (ownP_below hown (below_box2 (Below.refl _ _))) (some ⟨wr.heap.size + 1, 0, none⟩) [(qa, ql)] 1 rfl ⟨RowP.one (by simp) (by simp) (by simp), .inr ⟨_, _, rfl⟩⟩ (by rw [hTl]; simp only [List.length_cons, List.length_nil]; omega) (by simp; omega) ?_))
      intro v' w5 hown' hbe _
      have hbe2 : Below w3.heap.size w3 w5 := (hb.trans ((below_box2 (Below.refl _ _)).mono hsr)).trans hbe
      clear hbe hown
      go_wp2_with fail
      refine (s1.out _ _ hbe2.size hown').mono ?_
      rintro e w6 ⟨v6, rfl, ho6, hb6⟩
      have hbe3 := hbe2.trans hb6
      go_wp2_with fail
      exact ⟨⟨k + 1, by omega, by go_num, (by rw [hN.out]; exact ho6), hbe3⟩, by simp [intOf]; omega⟩
    · have hk' : k = U.length := by omega
      subst hk'
      rw [List.take_length] at hown
      clear hRU hU1 hU2
      go_wp2_with fail
      go_ret
      refine ⟨_, rfl, ?_, hbw3.trans (hb.mono hbw3.size)⟩
      have h := hF.out
      rw [← h]
      exact ownP_base hown hbw3.size

set_option maxRecDepth 100000 in
set_option maxHeartbeats 800000 in
theorem i_fewestOf_yes (a : Option Addr) (cap : Nat) (L : List Pf) (w : World) (hR : SrcP a L cap w) (hg : goodL L = true) :
    Calls Try.prog 18 #[.slice a L.length cap] w fun e w' => ∃ v, e = .returned (.tuple #[v, .bool true]) ∧ OwnP w.heap.size v (fewS L) w' ∧ Below w.heap.size w w' := by
  obtain ⟨g1, g2⟩ := goodL_parts hg
  have s1 := hide (fun w hR => i_are a cap L w (by omega) hR)
  rw [hg] at s1
  have s2 := hide (fun w hR => i_few a cap L w (by omega) hR g1)
  clear hg
  go_enter Try.func18, Try.ntmps18
  go_wp2_with fail
  refine (s1.out _ hR.1).mono ?_
  rintro e w1 ⟨rfl, hb1⟩
  go_wp2_with fail
  refine (s2.out _ ⟨hR.1.below hb1, hR.2⟩).mono ?_
  rintro e w2 ⟨v2, rfl, ho2, hb2⟩
  go_wp2_with fail
  refine bodyPost_ret (v := .tuple #[v2, .bool true]) (by simp [results, Try.results18, go_sem]) rfl ⟨_, rfl, ownP_base ho2 hb1.size, below_step hb1 hb2⟩
set_option maxRecDepth 100000 in
set_option maxHeartbeats 800000 in
theorem i_fewestOf_no (a : Option Addr) (cap : Nat) (L : List Pf) (w : World) (hl : L.length ≤ 8589934592) (hR : RowP a L w) (hg : goodL L = false) :
    Calls Try.prog 18 #[.slice a L.length cap] w fun e w' => e = .returned (.tuple #[.slice none 0 0, .bool false]) ∧ Below w.heap.size w w' := by
  have s1 := hide (fun w hR => i_are a cap L w hl hR)
  rw [hg] at s1
  clear hg
  go_enter Try.func18, Try.ntmps18
  go_wp2_with fail
  refine (s1.out _ hR).mono ?_
  rintro e w1 ⟨rfl, hb1⟩
  go_wp2_with fail
  refine bodyPost_ret (v := .tuple #[.slice none 0 0, .bool false]) (by simp [results, Try.results18, go_sem]) rfl ⟨rfl, hb1⟩
end Go.Proofs.Ytofalilkephkpaa
