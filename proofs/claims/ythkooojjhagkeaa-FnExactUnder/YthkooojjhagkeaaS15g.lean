/- Under of the specification. -/
import Derived.Test.YthkooojjhagkeaaS15f
import Derived.Test.YthkooojjhagkeaaDrop15
import Derived.Deep.RegionHeld3
namespace Go.Proofs.Ythkooojjhagkeaa
open Go.RowKit

set_option maxRecDepth 100000 in
set_option maxHeartbeats 3200000 in
theorem s_under (a : Option Addr) (N c : Nat) (T : Nat → Lf) (a1 : Option Addr) (n c1 : Nat) (p : Nat → ByteArray) (w : World) (hN : N ≤ 1048576) (hl : LowF N T) (hn : n ≤ 1048576) (hp0 : ∀ i, i < n → (p i).size ≤ maxLen) (hR : RowF true a N T w) (Q0 : RowStr a1 n p w) :
    Calls Try.prog 18 #[.slice a N c, .slice a1 n c1] w fun e w' => ∃ v, e = .returned (.tuple #[v, .bool (undA N T n p).2]) ∧ ∃ L, LsF w.heap.size v L w' ∧ L.map (·.t) = (undA N T n p).1 ∧ Below w.heap.size w w' := by
  have hY : Hid (GC N T → Pw n p → (undL N T n p, decide (0 < (undL N T n p).length)) = undA N T n p) := fun h g => by
    unfold undA
    rw [if_pos (tB_t ⟨h, g⟩)]
  have hZ : Hid (¬ (GC N T ∧ Pw n p) → undA N T n p = ([], false)) := fun h => if_neg (by simp [tB_f h])
  have G := hide (fun w R => s_goodConfig a N c T w hN hl R)
  have W := hide (fun w R => s_path a1 n c1 p w hn hp0 R)
  generalize undA N T n p = GA at *
  go_enter Try.func18, Try.ntmps18
  go_wp2_with fail
  refine (G.out _ hR).mono ?_
  rintro e w1 ⟨rfl, b1⟩
  by_cases hg : GC N T
  case neg =>
    rw [tB_f hg]
    have hE := hide (hZ.out (fun h => hg h.1))
    clear hY hZ
    go_wp2_with fail
    exact bodyPost_ret (v := .tuple #[.slice none 0 0, .bool GA.2]) (by rw [hE.out]; simp [results, Try.results18, go_sem]) rfl ⟨_, rfl, [], LsF.nil _ _, by rw [hE.out]; rfl, b1⟩
  rw [tB_t hg]
  go_wp2_with fail
  refine (W.out _ (Q0.below b1)).mono ?_
  rintro e w2 ⟨rfl, b2⟩
  have d2 := below_step b1 b2
  clear b1 b2 G W
  by_cases hp : Pw n p
  case neg =>
    rw [tB_f hp]
    have hE := hide (hZ.out (fun h => hp h.2))
    clear hY hZ
    go_wp2_with fail
    exact bodyPost_ret (v := .tuple #[.slice none 0 0, .bool GA.2]) (by rw [hE.out]; simp [results, Try.results18, go_sem]) rfl ⟨_, rfl, [], LsF.nil _ _, by rw [hE.out]; rfl, d2⟩
  rw [tB_t hp]
  have hn30 : N ≤ 30 := hg.2
  have hT1 : Hid (∀ i, i < N → 1 ≤ (T i).n ∧ (T i).n ≤ 5) := fun i hi => ⟨(hg.1 i hi).1.1, (hg.1 i hi).1.2.1⟩
  have hn5 : 1 ≤ n ∧ n ≤ 5 := ⟨hp.1, hp.2.1⟩
  replace hY := hide (hY.out hg hp)
  clear hZ hp hg hp0
  go_wp2_with fail
  go_loopw [6, 8, 19] (fun x _ y wr => ∃ (k : Nat) (L : List El15), y = .int .i64 k ∧ k ≤ N ∧ L.length ≤ k ∧ LsF w.heap.size x L wr ∧ Hid (L.map (·.t) = flt15 (fun i => n < (T i).n ∧ Bg n p (T i).n (T i).p) (fun i => cutF n (T i)) k) ∧ Below w.heap.size w wr) (fun _ _ y _ => N - (intOf y).toNat)
  case atStart => exact ⟨0, [], rfl, Nat.zero_le _, Nat.le_refl _, LsF.nil _ _, rfl, d2⟩
  case round =>
    clear d2
    obtain ⟨k, L, rfl, hk, hMk, LL, hm, hb⟩ := hrel
    by_cases hlt : k < N
    · obtain ⟨b0, off, a0, c0, rfl, hbw, u0, u1, hc0, R0⟩ := hR k hlt
      replace u0 := (hb.cell (p := ⟨b0, off + k * 2, none⟩) hbw).trans u0
      replace u1 := (hb.cell (p := ⟨b0, off + k * 2 + 1, none⟩) hbw).trans u1
      replace hc0 := hc0 rfl
      have hlt' : (k : Int) < (N : Int) := by omega
      have lk := (hl k hlt).1
      have MB := Mut.new wr #[.slice a0 (T k).n c0, .string (T k).v] 48
      have bB : Below wr.heap.size wr (wr.alloc (.cells #[.slice a0 (T k).n c0, .string (T k).v] 48)) := below_box (Below.refl _ _)
      have d1 := below_step hb bB
      have LL1 := LL.below bB
      have S := hide (fun w R Q => s_begins a1 a0 n (T k).n c1 c0 p (T k).p w hn R Q)
      have hbs := hb.size
      have hob : Hid (∀ b, u6.ownBlock = some b → b < wr.heap.size) := fun b hq => (ownW_lt LL.1 hq).2
      have hxl : Hid (∀ z, z ∈ L → z.x < wr.heap.size) := fun z hz => LL.lt hz
      by_cases hs : Bg n p (T k).n (T k).p
      case neg =>
        rw [tB_f hs] at S
        have hmN : Hid (L.map (·.t) = flt15 (fun i => n < (T i).n ∧ Bg n p (T i).n (T i).p) (fun i => cutF n (T i)) (k + 1)) := hm.out.trans (flt15_no (P := (fun i => n < (T i).n ∧ Bg n p (T i).n (T i).p)) (fun h => hs h.2)).symm
        clear hm hs hR hl LL bB hb hY hT1
        generalize T k = t at *
        obtain ⟨tn, tp, tv⟩ := t
        dsimp only at *
        go_wp2_with fail
        generalize wr.alloc (.cells #[.slice a0 tn c0, .string tv] 48) = w1 at *
        generalize wr.heap.size = bx at *
        refine (S.out _ (Q0.below d1) (R0.below d1)).mono ?_
        rintro e w3 ⟨rfl, b3⟩
        have d3 := d1.trans (b3.mono d1.size)
        replace LL1 := LL1.below b3
        replace MB := MB.below b3
        clear b3 d1 u0 u1 MB
        go_wp2_with fail
        exact ⟨⟨k + 1, L, by go_num, by omega, by omega, LL1, hmN, d3⟩, by simp [intOf]; omega⟩
      by_cases hs0 : n < (T k).n
      case neg =>
        have kn : ¬ (((T k).n : Int) > (n : Int)) := by omega
        rw [tB_t hs] at S
        have hmN : Hid (L.map (·.t) = flt15 (fun i => n < (T i).n ∧ Bg n p (T i).n (T i).p) (fun i => cutF n (T i)) (k + 1)) := hm.out.trans (flt15_no (P := (fun i => n < (T i).n ∧ Bg n p (T i).n (T i).p)) (fun h => hs0 h.1)).symm
        clear hs0
        clear hm hs hR hl LL bB hb hY hT1
        generalize T k = t at *
        obtain ⟨tn, tp, tv⟩ := t
        dsimp only at *
        go_wp2_with fail
        generalize wr.alloc (.cells #[.slice a0 tn c0, .string tv] 48) = w1 at *
        generalize wr.heap.size = bx at *
        refine (S.out _ (Q0.below d1) (R0.below d1)).mono ?_
        rintro e w3 ⟨rfl, b3⟩
        have d3 := d1.trans (b3.mono d1.size)
        replace LL1 := LL1.below b3
        replace MB := MB.below b3
        have q0 := MB.2.1 0 _ rfl
        clear b3 d1 u0 u1
        go_wp2_with fail
        clear MB q0
        exact ⟨⟨k + 1, L, by go_num, by omega, by omega, LL1, hmN, d3⟩, by simp [intOf]; omega⟩
      have kn : (((T k).n : Int) > (n : Int)) := by omega
      rw [tB_t hs] at S
      have hmN : Hid (∀ (x q : Nat), (L ++ [(⟨cutF n (T k), x, q⟩ : El15)]).map (·.t) = flt15 (fun i => n < (T i).n ∧ Bg n p (T i).n (T i).p) (fun i => cutF n (T i)) (k + 1)) := fun x q => by
        rw [flt15_yes (P := (fun i => n < (T i).n ∧ Bg n p (T i).n (T i).p)) ⟨hs0, hs⟩, List.map_append, hm.out]; rfl
      obtain ⟨b2, off2, rfl, hb2, _⟩ := R0 0 (by omega)
      have RC := R0.drop15 n
      clear hm hs hR hl LL bB hb hY hT1
      generalize T k = t at *
      obtain ⟨tn, tp, tv⟩ := t
      dsimp only at *
      go_wp2_with fail
      generalize wr.alloc (.cells #[.slice (some ⟨b2, off2, none⟩) tn c0, .string tv] 48) = w1 at *
      generalize wr.heap.size = bx at *
      refine (S.out _ (Q0.below d1) (R0.below d1)).mono ?_
      rintro e w3 ⟨rfl, b3⟩
      have d3 := d1.trans (b3.mono d1.size)
      replace LL1 := LL1.below b3
      replace MB := MB.below b3
      clear b3 d1 u0 u1
      have hip : (n : Int) < (tn : Int) := by omega
      have hipl : (n : Int) ≤ (tn : Int) := by omega
      have hpc : (tn : Int) ≤ (c0 : Int) := by omega
      have hci : c0 ≠ n := by omega
      have k0 := MB.2.1 0 _ rfl
      have k1 := MB.2.1 1 _ rfl
      go_wp2_with fail
      have hkW : w3.cell? ⟨bx, 0, none⟩ = some (.slice (some ⟨b2, off2, none⟩) tn c0) ∧ w3.cell? ⟨bx, 1, none⟩ = some (.string tv) := ⟨k0, k1⟩
      have KP := hide (fun w' (h : Mut w' bx [.slice (some ⟨b2, off2, none⟩) tn c0, .string tv]) => And.intro (h.2.1 0 _ rfl) (h.2.1 1 _ rfl))
      have vob : Hid (u6.ownBlock ≠ some bx) := fun e => by have := hob.out _ e; omega
      have hbs := d3.size
      have hbx : bx < w3.heap.size := MB.1
      have h1c : Hid (∀ (x q : Nat), ∀ u ∈ ([.slice (some ⟨x, 0, none⟩) (tn - n) q, .string tv] : List Value), u.oneCell' = true) := fun x q => elf_one ⟨cutF n ⟨tn, tp, tv⟩, x, q⟩
      have hlen9 : Hid (L.length + 1 ≤ 8589934593) := by show _ ≤ _; omega
      have l0c : 1 ≤ tn - n := by omega
      have RW0 := hide (RC.below d3)
      have own0 : OwnT 9 w3.heap.size (.slice (some ⟨w3.heap.size, 0, none⟩) 0 0) [] (w3.alloc (.cells #[] 9)) := by simpa [tcells] using ownT_made 9 w3 [] (by simp)
      have own0d : OwnT 9 w3.heap.size (.slice (some ⟨w3.heap.size, 0, none⟩) 0 0) [] (w3.drew.alloc (.cells #[] 9)) := by simpa [tcells] using ownT_made 9 w3.drew [] (by simp)
      have hl15 := hide (listS_len (tn - n) (fun i => tp (n + i)))
      have hl16 : Hid (([] : List ByteArray).length + (listS (tn - n) (fun i => tp (n + i))).length ≤ 8589934593) := by show _ ≤ _; rw [hl15.out]; simp; omega
      have srcW : SrcT (some ⟨b2, off2 + n, none⟩) (listS (tn - n) (fun i => tp (n + i))) (c0 - n) w3 := ⟨RowT.of_str RW0.out, .inr ⟨b2, _, rfl⟩⟩
      have src0 := srcW.below (below_box (o := .cells #[] 9) (Below.refl _ _))
      have q1d : Below w3.drew.heap.size w3.drew (w3.drew.alloc (.cells #[] 9)) := below_box (Below.refl _ _)
      have src0d : SrcT (some ⟨b2, off2 + n, none⟩) (listS (tn - n) (fun i => tp (n + i))) (c0 - n) (w3.drew.alloc (.cells #[] 9)) := srcW.below ((Below.refl w3.heap.size w3).drew.trans q1d)
      replace LL1 := hide LL1
      go_region_held3 (fun w' => w'.cell? ⟨bx, 0, none⟩ = some (.slice (some ⟨b2, off2, none⟩) tn c0) ∧ w'.cell? ⟨bx, 1, none⟩ = some (.string tv)) (first | with_reducible exact hk9 | with_reducible exact hkC | with_reducible exact hkW | go_keep)
        (first
          | (have hq := LLC; refine step_appW leafT (by rfl) _ _ (by rfl) w.heap.size u6 L.length (efs L) (by rfl) (by first | with_reducible exact ownW_below ownC (below_box (Below.refl _ _)) | with_reducible exact ownW_below ownC (below_box (Below.refl _ _)).drew) wC.heap.size 0 1 1 [.slice (some ⟨g, 0, none⟩) (tn - n) cap, .string tv] (by rfl) (by rfl) (by first | with_reducible exact RowW.mut (Mut.new wC _ _) | with_reducible exact (RowW.mut (Mut.new wC _ _)).below (Below.refl _ _).drew) (h1c.out g cap) hlen9.out (by decide) (by first | exact Nat.le_trans hbC (below_box (Below.refl _ _)).size | (simp; omega)) ?_; intro v9 w9 own9 b9 gr9 ob9; replace own9 : OwnW 48 2 w.heap.size v9 (L.length + 1) (efs L ++ elf ⟨⟨tn - n, fun i => tp (n + i), tv⟩, g, cap⟩) w9 := own9; have d9 : Below w.heap.size wC w9 := (by first | exact ((below_box (Below.refl _ _)).mono hbC).trans b9 | exact ((below_box (Below.refl _ _)).drew.mono hbC).trans b9); have hk9 := KP.out w9 (by first | with_reducible exact ((MB.below dC).below (below_box (Below.refl _ _))).grown15 gr9 vob.out | with_reducible exact ((MB.below dC).below (below_box (Below.refl _ _)).drew).grown15 gr9 vob.out); have L9 : LsF w.heap.size v9 (L ++ [⟨⟨tn - n, fun i => tp (n + i), tv⟩, g, cap⟩]) w9 := (by first | with_reducible exact (LLC.below (below_box (Below.refl _ _))).push (e := ⟨⟨tn - n, fun i => tp (n + i), tv⟩, g, cap⟩) hgb hcap (oC.below (below_box (Below.refl _ _))) hzC hvC own9 gr9 ob9 | with_reducible exact (LLC.below (below_box (Below.refl _ _)).drew).push (e := ⟨⟨tn - n, fun i => tp (n + i), tv⟩, g, cap⟩) hgb hcap (oC.below (below_box (Below.refl _ _)).drew) hzC hvC own9 gr9 ob9))
          | (have hq := RW0; refine step_appT strT (by rfl) _ _ (by rfl) w3.heap.size _ [] (by rfl) (by first | with_reducible exact own0 | with_reducible exact ownT_below own0 (Below.refl _ _).drew | exact own0d) (some ⟨b2, off2 + n, none⟩) (listS (tn - n) (fun i => tp (n + i))) (tn - n) (c0 - n) (by rfl) hl15.out.symm (by first | with_reducible exact src0 | with_reducible exact src0.below (Below.refl _ _).drew | exact src0d) hl16.out (by decide) (by simp) ?_; intro v8 wC own8 b8 _ _; rw [List.nil_append] at own8; obtain ⟨g, cap, rfl, hcap, hg, oC⟩ := ownT_outS own8 l0c; have dC : Below w3.heap.size w3 wC := (by first | exact (below_box (Below.refl _ _)).trans b8 | exact ((below_box (Below.refl _ _)).trans (Below.refl _ _).drew).trans b8 | exact (Below.refl _ _).drew.trans ((below_box (Below.refl _ _)).trans b8)); have hgb : w.heap.size ≤ g := Nat.le_trans hbs hg; have hkC := KP.out _ (MB.below dC); have LLC := LL1.out.below dC; have ownC := LLC.1; have hbC : w.heap.size ≤ wC.heap.size := Nat.le_trans hbs dC.size; have hzC : ∀ z, z ∈ L → z.x ≠ g := (fun z hz => by have := hxl.out z hz; omega); have hvC : u6.ownBlock ≠ some g := (fun e => by have := hob.out _ e; omega)))
      all_goals
        have D9 : Below w.heap.size w w9 := d3.trans ((dC.mono d3.size).trans d9)
        have hmN : (L ++ [(⟨⟨tn - n, fun i => tp (n + i), tv⟩, g, cap⟩ : El15)]).map (·.t) = _ := hmN.out g cap
        clear hk9 hkW k0 k1 d9 gr9 ob9 own9 ownC LLC oC dC hzC hvC hg hcap hob hxl KP MB LL1
        go_wp2_with fail
        exact ⟨⟨k + 1, _, by go_num, by omega, by simp; omega, L9, hmN, D9⟩, by simp [intOf]; omega⟩
    · have hlt' : ¬ (k : Int) < (N : Int) := by omega
      obtain rfl : k = N := by omega
      have hm2 : L.map (·.t) = undL k T n p := hm.out
      have hlm : L.length = (undL k T n p).length := by rw [← hm2]; simp
      obtain ⟨xa, xc, hxv, _⟩ := ownW_row LL.1
      subst hxv
      have hE0 := hide hY.out.symm
      have hlm2 := hide hlm
      have hm3 := hide hm2
      clear hm hm2 hlm hR hl hY hT1
      have hML : (L.length : Int) ≤ 30 := by omega
      go_wp2_with fail
      refine bodyPost_ret (v := .tuple #[.slice xa L.length xc, .bool GA.2]) ?_ rfl ⟨_, rfl, L, LL, by rw [hE0.out]; exact hm3.out, hb⟩
      rw [hE0.out]
      simp only [results, Try.results18]
      simp [go_sem, ← hlm2.out]
end Go.Proofs.Ythkooojjhagkeaa
