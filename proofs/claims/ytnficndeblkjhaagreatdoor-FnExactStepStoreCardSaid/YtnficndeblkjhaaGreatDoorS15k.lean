/- A leaf put to its place, by the specification. -/
import Derived.Test.YtnficndeblkjhaaGreatDoorS15f
import Derived.Test.YtnficndeblkjhaaGreatDoorGrp5
namespace Go.Proofs.YtnficndeblkjhaaGreatDoor
open Go.RowKit

theorem efs_append : ∀ (A B : List El15), efs (A ++ B) = efs A ++ efs B
  | [], _ => rfl
  | x :: A, B => by simp [efs, efs_append A B]
theorem efs_len : ∀ (A : List El15), (efs A).length = A.length * 2
  | [] => rfl
  | x :: A => by simp [efs, elf, efs_len A]; omega
theorem efs_one : ∀ (A : List El15), ∀ u ∈ efs A, u.oneCell' = true
  | [], u, hu => by simp [efs] at hu
  | x :: A, u, hu => by
    rcases List.mem_append.1 hu with hu | hu
    · exact elf_one x u hu
    · exact efs_one A u hu
theorem rowW_take {a : Option Addr} {L : List El15} {w : World} (h : RowW a (efs L) w) (k : Nat) : RowW a (efs (L.take k)) w := by
  intro j u hu
  refine h j u ?_
  have e : efs L = efs (L.take k) ++ efs (L.drop k) := by rw [← efs_append, List.take_append_drop]
  rw [e, List.getElem?_append_left (List.getElem?_eq_some_iff.1 hu).1]
  exact hu
theorem rowW_drop {g : Nat} {L : List El15} {w : World} (h : RowW (some ⟨g, 0, none⟩) (efs L) w) {k : Nat} (hk : k ≤ L.length) : RowW (some ⟨g, k * 2, none⟩) (efs (L.drop k)) w := by
  intro j u hu
  have e : efs L = efs (L.take k) ++ efs (L.drop k) := by rw [← efs_append, List.take_append_drop]
  have hl : (efs (L.take k)).length = k * 2 := by rw [efs_len]; simp; omega
  have h2 : (efs L)[k * 2 + j]? = some u := by
    rw [e, List.getElem?_append_right (by omega), hl]
    simpa using hu
  obtain ⟨b, off, ha, hb, h0⟩ := h _ _ h2
  simp only [Option.some.injEq, Addr.mk.injEq, and_true] at ha
  obtain ⟨rfl, rfl⟩ := ha
  exact ⟨g, k * 2, rfl, hb, by rw [Nat.zero_add] at h0; exact h0⟩
theorem wpList_appW0 {ops : Array Oper} {rest : List Oper} {o : Oper} {a : Act} {w : World} {Q : Exit → Act → World → Prop} (hgd : o.guard = none) (s x : Operand)
    (ho : o.op = .call { callee := .builtin .append, args := #[s, x], argTypes := #[31, 31] })
    (base : Nat) (v : Value) (n : Nat) (xs : List Value) (hs : a.eval s = v) (hown : OwnW 87 2 base v n xs w) (hx : a.eval x = .slice none 0 0)
    (h : wpList Tryz.prog ops Q rest (a.put o.dst v) w) : wpList Tryz.prog ops Q (o :: rest) a w := by
  obtain ⟨ht, hinfo, _, _⟩ := leafT
  obtain ⟨i, hi, _⟩ := Option.map_eq_some_iff.1 hinfo
  have hr := run_append_owned_none (P := Tryz.prog) (w := w) base 31 o.type 87 i 2 ht hi v n xs hown
  refine wpList_plain hgd fun _ hK => ?_
  unfold Oper.wp execOp
  simp only [ho, resolve, invoke, builtin, Sem.run_bind, Sem.run_pure, Result.andThen_ok, List.map_toArray, List.map_cons, List.map_nil, hs, hx, hr]
  exact hK _ _ h
set_option maxRecDepth 100000 in
set_option maxHeartbeats 3200000 in
theorem s_put15n (z : El15) (w : World) :
    Calls Tryz.prog 84 #[.slice none 0 0, .agg #[.slice (some ⟨z.x, 0, none⟩) z.t.n z.k, .string z.t.v]] w fun e w' => ∃ v, e = .returned v ∧ OwnW 87 2 w.heap.size v 1 (efs [z]) w' ∧ Below w.heap.size w w' := by
  have MB := Mut.new w #[.slice (some ⟨z.x, 0, none⟩) z.t.n z.k, .string z.t.v] 87
  have d1 : Below w.heap.size w (w.alloc (.cells #[.slice (some ⟨z.x, 0, none⟩) z.t.n z.k, .string z.t.v] 87)) := below_box (Below.refl _ _)
  have h1c := hide (elf_one z)
  obtain ⟨⟨zn, zp, zv⟩, zx, zk⟩ := z
  dsimp only at *
  go_enter Tryz.func84, Tryz.ntmps84
  go_wp2_with fail
  generalize w.alloc (.cells #[.slice (some ⟨zx, 0, none⟩) zn zk, .string zv] 87) = w1 at *
  generalize hbx : w.heap.size = bx at *
  go_loopw [5] (fun y wr => y = .int .i64 0 ∧ Below bx w wr ∧ Mut wr bx [.slice (some ⟨zx, 0, none⟩) zn zk, .string zv]) (fun _ _ => 0)
  case atStart => exact ⟨rfl, d1, MB⟩
  case round =>
    clear MB d1
    obtain ⟨rfl, d1, MB⟩ := hrel
    go_wp2_with fail
    go_quiet (fail)
    have d2 := below_drewN d1 nq
    have M2 := MB.below (below_drewN (Below.refl wr.heap.size wr) nq)
    generalize wr.drewN nq = w2 at *
    clear d1 MB
    subst hbx
    have k0 := M2.2.1 0 _ rfl
    have k1 := M2.2.1 1 _ rfl
    have hb2 := d2.size
    have bA : Below w2.heap.size w2 (w2.alloc (.cells #[.slice (some ⟨zx, 0, none⟩) zn zk, .string zv] 87)) := below_box (Below.refl _ _)
    have dA := d2.trans (bA.mono hb2)
    have RA : RowW (some ⟨w2.heap.size, 0, none⟩) [.slice (some ⟨zx, 0, none⟩) zn zk, .string zv] (w2.alloc (.cells #[.slice (some ⟨zx, 0, none⟩) zn zk, .string zv] 87)) := RowW.mut (Mut.new w2 _ _)
    have own0 := ownW_nil 87 2 w.heap.size w2
    have own1 := ownW_nil 87 2 w.heap.size (w2.alloc (.cells #[.slice (some ⟨zx, 0, none⟩) zn zk, .string zv] 87))
    have hba := dA.size
    go_wp2_with (first | (have hq := own7; at_builtin; refine wpList_appW0 rfl _ _ rfl w.heap.size _ (0 + 1) _ rfl own7 rfl ?_) | (have hq := tok6; at_builtin; refine wpList_appW leafT rfl _ _ rfl w.heap.size _ 0 [] rfl own1 w2.heap.size 0 1 1 [.slice (some ⟨zx, 0, none⟩) zn zk, .string zv] rfl rfl RA h1c.out (by decide) (by decide) hba ?_; intro v7 w7 own7 b7 _ _) | (at_builtin; refine wpList_appW0 rfl _ _ rfl w.heap.size _ 0 [] rfl own0 rfl ?_; have tok6 : 0 = 0 := rfl))
    have D7 := dA.trans b7
    clear own0 own1 RA k0 k1 b7 hba
    go_ret
    exact ⟨_, rfl, own7, D7⟩

set_option maxRecDepth 100000 in
set_option maxHeartbeats 6400000 in
theorem s_put15 (g vc : Nat) (L : List El15) (z : El15) (w : World) (hL : L.length ≤ 31) (h1 : 1 ≤ L.length) (hvc : L.length ≤ vc) (hR : RowW (some ⟨g, 0, none⟩) (efs L) w) (hrows : ∀ e, e ∈ L → e.t.n ≤ 1048576 ∧ RowStr (some ⟨e.x, 0, none⟩) e.t.n e.t.p w) (hz : RowStr (some ⟨z.x, 0, none⟩) z.t.n z.t.p w) :
    Calls Tryz.prog 84 #[.slice (some ⟨g, 0, none⟩) L.length vc, .agg #[.slice (some ⟨z.x, 0, none⟩) z.t.n z.k, .string z.t.v]] w fun e w' => ∃ v, e = .returned v ∧ OwnW 87 2 w.heap.size v (L.length + 1) (efs (L.take (aheadF z.t (L.map (·.t))) ++ z :: L.drop (aheadF z.t (L.map (·.t))))) w' ∧ Below w.heap.size w w' := by
  have MB := Mut.new w #[.slice (some ⟨z.x, 0, none⟩) z.t.n z.k, .string z.t.v] 87
  have d1 : Below w.heap.size w (w.alloc (.cells #[.slice (some ⟨z.x, 0, none⟩) z.t.n z.k, .string z.t.v] 87)) := below_box (Below.refl _ _)
  have hb1 : w.heap.size + 1 ≤ (w.alloc (.cells #[.slice (some ⟨z.x, 0, none⟩) z.t.n z.k, .string z.t.v] 87)).heap.size := by simp
  have h1c := hide (elf_one z)
  have hK0 : aheadF z.t (L.map (·.t)) ≤ L.length := by have := aheadF_le z.t (L.map (·.t)); simpa using this
  have hK1 : ∀ i (h : i < L.length), i < aheadF z.t (L.map (·.t)) → LtP (L[i]).t.n (L[i]).t.p z.t.n z.t.p := fun i h hi => by
    have := aheadF_lt (z := z.t) (L := L.map (·.t)) (i := i) (by simpa using h) hi
    simpa [LtL] using this
  have hK2 : ∀ i (h : i < L.length), i = aheadF z.t (L.map (·.t)) → ¬ LtP (L[i]).t.n (L[i]).t.p z.t.n z.t.p := fun i h hi => by
    subst hi
    have := aheadF_at (z := z.t) (L := L.map (·.t)) (by simpa using h)
    simpa [LtL] using this
  generalize aheadF z.t (L.map (·.t)) = K at *
  have hT2 := rowW_take hR K
  obtain ⟨⟨zn, zp, zv⟩, zx, zk⟩ := z
  dsimp only at *
  go_enter Tryz.func84, Tryz.ntmps84
  go_wp2_with fail
  generalize w.alloc (.cells #[.slice (some ⟨zx, 0, none⟩) zn zk, .string zv] 87) = w1 at *
  go_loopw [5] (fun y wr => ∃ k : Nat, y = .int .i64 k ∧ k ≤ K ∧ Below w.heap.size w wr ∧ Mut wr w.heap.size [.slice (some ⟨zx, 0, none⟩) zn zk, .string zv] ∧ w.heap.size + 1 ≤ wr.heap.size) (fun y _ => L.length - (intOf y).toNat)
  case atStart => exact ⟨0, rfl, Nat.zero_le _, d1, MB, hb1⟩
  case round =>
    clear MB d1 hb1
    obtain ⟨k, rfl, hk, d1, MB, hb1⟩ := hrel
    by_cases hlt : k < K
    · have hlt' : (k : Int) < (L.length : Int) := by omega
      obtain ⟨e1, e2⟩ := efs_at (L := L) (i := k) (by omega)
      obtain ⟨b5, f5, hab, hb5, u0⟩ := hR _ _ e1
      simp only [Option.some.injEq, Addr.mk.injEq, and_true] at hab
      obtain ⟨rfl, rfl⟩ := hab
      rw [Nat.zero_add] at u0
      replace u0 := (d1.cell (p := ⟨g, k * 2, none⟩) hb5).trans u0
      obtain ⟨l1, R0⟩ := hrows _ (List.getElem_mem (show k < L.length by omega))
      replace R0 := R0.below d1
      have Q0 := hz.below d1
      have hLt := hK1 k (by omega) hlt
      generalize L[k] = el at *
      have S := hide (fun w R Q => s_less15 (some ⟨el.x, 0, none⟩) (some ⟨zx, 0, none⟩) el.t.n zn el.k zk el.t.p zp w l1 R Q)
      rw [tB_t hLt] at S
      clear hLt hK1 hK2 e1 e2 hR hrows hz hT2
      obtain ⟨⟨en, ep, ev⟩, ex, ek⟩ := el
      dsimp only at *
      generalize hLn : L.length = n at *
      have q0 := cell_regrown (MB.2.1 0 _ rfl)
      have u1 := cell_regrown u0
      go_wp2_with fail
      refine wp_region_quiet_below (by kernel_rfl) (by kernel_rfl) ?_
      repeat (first | go_big_quiet_step ((go_at_call 81; exact Calls.regrown_of (S.out _ (R0.below (below_regrown _ _ _)) (Q0.below (below_regrown _ _ _))))) | quiet_step ((go_at_call 81; exact Calls.regrown_of (S.out _ (R0.below (below_regrown _ _ _)) (Q0.below (below_regrown _ _ _))))))
      refine wpQuiet_nil ?_
      intro _ hw'
      obtain ⟨⟨dq, osq⟩, hw''⟩ := hw'
      subst hw''
      have hq2 := below_regrown wr dq osq
      generalize Go.Sort.grow (redrawn wr dq) osq = w2 at hq2 ⊢
      have d2 := d1.trans (hq2.mono d1.size)
      have M2 := MB.below hq2
      have hb2 := Nat.le_trans hb1 hq2.size
      clear hq2 q0 u0 u1 MB
      go_wp2_with fail
      exact ⟨⟨k + 1, by go_num, by omega, d2, M2, hb2⟩, by simp [intOf]; omega⟩
    obtain rfl : k = K := by omega
    by_cases hn : k < L.length
    · have hlt' : (k : Int) < (L.length : Int) := by omega
      have hKn : (k : Int) ≤ (L.length : Int) := by omega
      have hKc : (k : Int) ≤ (vc : Int) := by omega
      have hnc : (L.length : Int) ≤ (vc : Int) := by omega
      have hne : vc ≠ k := by omega
      have RD := rowW_drop hR (k := k) (by omega)
      have RT := hT2
      have hdl : (efs (L.drop k)).length = (L.length - k) * 2 := by rw [efs_len]; simp
      have htl : (efs (L.take k)).length = k * 2 := by rw [efs_len]; simp; omega
      have hlen7 : Hid (0 + k ≤ 8589934593) := by show _ ≤ _; omega
      have hlen8 : Hid (0 + k + 1 ≤ 8589934593) := by show _ ≤ _; omega
      have hlen9 : Hid (0 + k + 1 + (L.length - k) ≤ 8589934593) := by show _ ≤ _; omega
      obtain ⟨e1, e2⟩ := efs_at (L := L) (i := k) (by omega)
      obtain ⟨b5, f5, hab, hb5, u0⟩ := hR _ _ e1
      simp only [Option.some.injEq, Addr.mk.injEq, and_true] at hab
      obtain ⟨rfl, rfl⟩ := hab
      rw [Nat.zero_add] at u0
      replace u0 := (d1.cell (p := ⟨g, k * 2, none⟩) hb5).trans u0
      obtain ⟨l1, R0⟩ := hrows _ (List.getElem_mem (show k < L.length by omega))
      replace R0 := R0.below d1
      have Q0 := hz.below d1
      have hLt := hK2 k (by omega) rfl
      generalize L[k] = el at *
      have S := hide (fun w R Q => s_less15 (some ⟨el.x, 0, none⟩) (some ⟨zx, 0, none⟩) el.t.n zn el.k zk el.t.p zp w l1 R Q)
      rw [tB_f hLt] at S
      clear hLt hK1 hK2 e1 e2 hR hrows hz hT2
      obtain ⟨⟨en, ep, ev⟩, ex, ek⟩ := el
      dsimp only at *
      generalize hLn : L.length = n at *
      have q0 := cell_regrown (MB.2.1 0 _ rfl)
      have u1 := cell_regrown u0
      go_wp2_with fail
      refine wp_region_quiet_below (by kernel_rfl) (by kernel_rfl) ?_
      repeat (first | go_big_quiet_step ((go_at_call 81; exact Calls.regrown_of (S.out _ (R0.below (below_regrown _ _ _)) (Q0.below (below_regrown _ _ _))))) | quiet_step ((go_at_call 81; exact Calls.regrown_of (S.out _ (R0.below (below_regrown _ _ _)) (Q0.below (below_regrown _ _ _))))))
      refine wpQuiet_nil ?_
      intro _ hw'
      obtain ⟨⟨dq, osq⟩, hw''⟩ := hw'
      subst hw''
      have hq2 := below_regrown wr dq osq
      generalize Go.Sort.grow (redrawn wr dq) osq = w2 at hq2 ⊢
      have d2 := d1.trans (hq2.mono d1.size)
      have M2 := MB.below hq2
      have hb2 := Nat.le_trans hb1 hq2.size
      clear hq2 q0 u0 u1 MB
      have k0 := M2.2.1 0 _ rfl
      have k1 := M2.2.1 1 _ rfl
      have own0 := ownW_nil 87 2 (w.heap.size + 1) w2
      have RT2 := RT.below d2
      go_wp2_with (first | (have hq := own7; at_builtin; refine wpList_appW leafT rfl _ _ rfl (w.heap.size + 1) _ (0 + k + 1) _ rfl own7 g (k * 2) (n - k) (vc - k) (efs (L.drop k)) rfl hdl RD7 (efs_one _) hlen9.out (by decide) hb7 ?_; intro v8 w8 own8 b8 _ _) | (have hq := own6; at_builtin; refine wpList_appW leafT rfl _ _ rfl (w.heap.size + 1) _ (0 + k) _ rfl (ownW_below own6 (below_box (Below.refl _ _))) w6.heap.size 0 1 1 [.slice (some ⟨zx, 0, none⟩) zn zk, .string zv] rfl rfl (RowW.mut (Mut.new w6 _ _)) h1c.out hlen8.out (by decide) (Nat.le_trans hb6 (below_box (Below.refl _ _)).size) ?_; intro v7 w7 own7 b7 _ _; have D7 : Below w.heap.size w w7 := D6.trans (((show Below w6.heap.size w6 (w6.alloc (.cells #[.slice (some ⟨zx, 0, none⟩) zn zk, .string zv] 87)) from below_box (Below.refl _ _)).mono D6.size).trans (b7.mono (Nat.le_succ _))); have RD7 := RD.below D7; have hb7 : w.heap.size + 1 ≤ w7.heap.size := Nat.le_trans (Nat.le_trans hb6 (show Below w6.heap.size w6 (w6.alloc (.cells #[.slice (some ⟨zx, 0, none⟩) zn zk, .string zv] 87)) from below_box (Below.refl _ _)).size) b7.size) | (at_builtin; refine wpList_appW leafT rfl _ _ rfl (w.heap.size + 1) _ 0 [] rfl own0 g 0 k vc (efs (L.take k)) rfl htl RT2 (efs_one _) hlen7.out (by decide) hb2 ?_; intro v6 w6 own6 b6 _ _; have D6 : Below w.heap.size w w6 := d2.trans (b6.mono (Nat.le_succ _)); have hb6 := Nat.le_trans hb2 b6.size; have M6 := M2.base (Nat.lt_succ_self _) b6; have k60 := M6.2.1 0 _ rfl; have k61 := M6.2.1 1 _ rfl))
      have D8 : Below w.heap.size w w8 := D7.trans (b8.mono (Nat.le_succ _))
      rw [List.nil_append] at own8
      have own9 : OwnW 87 2 w.heap.size v8 (n + 1) (efs (L.take k ++ ⟨⟨zn, zp, zv⟩, zx, zk⟩ :: L.drop k)) w8 := by
        refine ownW_base ?_ (Nat.le_succ w.heap.size)
        have e1 : efs (L.take k ++ ⟨⟨zn, zp, zv⟩, zx, zk⟩ :: L.drop k) = efs (L.take k) ++ [.slice (some ⟨zx, 0, none⟩) zn zk, .string zv] ++ efs (L.drop k) := by rw [efs_append]; simp [efs, elf]
        rw [e1]
        have e2 : n + 1 = 0 + k + 1 + (n - k) := by omega
        rw [e2]
        exact own8
      clear own0 own6 own7 own8 k0 k1 k60 k61 M6 RT2 b6 b7 b8
      go_ret
      exact ⟨_, rfl, by rw [hLn]; exact own9, D8⟩
    · have hlt' : ¬ (k : Int) < (L.length : Int) := by omega
      have hkn : k = L.length := by omega
      have hdn : L.drop k = [] := by rw [hkn]; simp
      have hKn : (k : Int) ≤ (L.length : Int) := by omega
      have hKc : (k : Int) ≤ (vc : Int) := by omega
      have RT := hT2
      have RD : RowW (some ⟨g, 0, none⟩) [] w := RowW.nil _ _
      have htl : (efs (L.take k)).length = k * 2 := by rw [efs_len]; simp; omega
      have hlen7 : Hid (0 + k ≤ 8589934593) := by show _ ≤ _; omega
      have hlen8 : Hid (0 + k + 1 ≤ 8589934593) := by show _ ≤ _; omega
      have hlen9 : Hid (0 + k + 1 + 0 ≤ 8589934593) := by show _ ≤ _; omega
      clear hK1 hK2 hR hrows hz hT2
      generalize hLn : L.length = n at *
      subst hkn
      go_wp2_with fail
      go_quiet (fail)
      have d2 := below_drewN d1 nq
      have M2 := MB.below (below_drewN (Below.refl wr.heap.size wr) nq)
      have hb2 : w.heap.size + 1 ≤ (wr.drewN nq).heap.size := Nat.le_trans hb1 (below_drewN (Below.refl wr.heap.size wr) nq).size
      generalize wr.drewN nq = w2 at *
      clear d1 MB
      by_cases hne : vc = k
      · subst hne
        have k0 := M2.2.1 0 _ rfl
        have k1 := M2.2.1 1 _ rfl
        have own0 := ownW_nil 87 2 (w.heap.size + 1) w2
        have RT2 := RT.below d2
        go_wp2_with (first | (have hq := own7; at_builtin; refine wpList_appW leafT rfl _ _ rfl (w.heap.size + 1) _ (0 + vc + 1) _ rfl own7 g 0 0 0 [] rfl rfl (RowW.nil _ _) (fun u hu => by simp at hu) hlen9.out (by decide) hb7 ?_; intro v8 w8 own8 b8 _ _) | (have hq := own6; at_builtin; refine wpList_appW leafT rfl _ _ rfl (w.heap.size + 1) _ (0 + vc) _ rfl (ownW_below own6 (below_box (Below.refl _ _))) w6.heap.size 0 1 1 [.slice (some ⟨zx, 0, none⟩) zn zk, .string zv] rfl rfl (RowW.mut (Mut.new w6 _ _)) h1c.out hlen8.out (by decide) (Nat.le_trans hb6 (below_box (Below.refl _ _)).size) ?_; intro v7 w7 own7 b7 _ _; have D7 : Below w.heap.size w w7 := D6.trans (((show Below w6.heap.size w6 (w6.alloc (.cells #[.slice (some ⟨zx, 0, none⟩) zn zk, .string zv] 87)) from below_box (Below.refl _ _)).mono D6.size).trans (b7.mono (Nat.le_succ _))); have RD7 := RD.below D7; have hb7 : w.heap.size + 1 ≤ w7.heap.size := Nat.le_trans (Nat.le_trans hb6 (show Below w6.heap.size w6 (w6.alloc (.cells #[.slice (some ⟨zx, 0, none⟩) zn zk, .string zv] 87)) from below_box (Below.refl _ _)).size) b7.size) | (at_builtin; refine wpList_appW leafT rfl _ _ rfl (w.heap.size + 1) _ 0 [] rfl own0 g 0 vc vc (efs (L.take vc)) rfl htl RT2 (efs_one _) hlen7.out (by decide) hb2 ?_; intro v6 w6 own6 b6 _ _; have D6 : Below w.heap.size w w6 := d2.trans (b6.mono (Nat.le_succ _)); have hb6 := Nat.le_trans hb2 b6.size; have M6 := M2.base (Nat.lt_succ_self _) b6; have k60 := M6.2.1 0 _ rfl; have k61 := M6.2.1 1 _ rfl))
        have D8 : Below w.heap.size w w8 := D7.trans (b8.mono (Nat.le_succ _))
        rw [List.nil_append] at own8
        have own9 : OwnW 87 2 w.heap.size v8 (vc + 1) (efs (L.take vc ++ ⟨⟨zn, zp, zv⟩, zx, zk⟩ :: L.drop vc)) w8 := by
          refine ownW_base ?_ (Nat.le_succ w.heap.size)
          have e1 : efs (L.take vc ++ ⟨⟨zn, zp, zv⟩, zx, zk⟩ :: L.drop vc) = efs (L.take vc) ++ [.slice (some ⟨zx, 0, none⟩) zn zk, .string zv] ++ [] := by rw [efs_append]; simp [efs, elf, hdn]
          rw [e1]
          have e2 : vc + 1 = 0 + vc + 1 + 0 := by omega
          rw [e2]
          exact own8
        clear own0 own6 own7 own8 k0 k1 k60 k61 M6 RT2 b6 b7 b8
        go_ret
        exact ⟨_, rfl, by rw [hLn]; exact own9, D8⟩
      · have hkc2 : (k : Int) < (vc : Int) := by omega
        have k0 := M2.2.1 0 _ rfl
        have k1 := M2.2.1 1 _ rfl
        have own0 := ownW_nil 87 2 (w.heap.size + 1) w2
        have RT2 := RT.below d2
        go_wp2_with (first | (have hq := own7; at_builtin; refine wpList_appW leafT rfl _ _ rfl (w.heap.size + 1) _ (0 + k + 1) _ rfl own7 g (k * 2) 0 (vc - k) [] rfl rfl (RowW.nil _ _) (fun u hu => by simp at hu) hlen9.out (by decide) hb7 ?_; intro v8 w8 own8 b8 _ _) | (have hq := own6; at_builtin; refine wpList_appW leafT rfl _ _ rfl (w.heap.size + 1) _ (0 + k) _ rfl (ownW_below own6 (below_box (Below.refl _ _))) w6.heap.size 0 1 1 [.slice (some ⟨zx, 0, none⟩) zn zk, .string zv] rfl rfl (RowW.mut (Mut.new w6 _ _)) h1c.out hlen8.out (by decide) (Nat.le_trans hb6 (below_box (Below.refl _ _)).size) ?_; intro v7 w7 own7 b7 _ _; have D7 : Below w.heap.size w w7 := D6.trans (((show Below w6.heap.size w6 (w6.alloc (.cells #[.slice (some ⟨zx, 0, none⟩) zn zk, .string zv] 87)) from below_box (Below.refl _ _)).mono D6.size).trans (b7.mono (Nat.le_succ _))); have RD7 := RD.below D7; have hb7 : w.heap.size + 1 ≤ w7.heap.size := Nat.le_trans (Nat.le_trans hb6 (show Below w6.heap.size w6 (w6.alloc (.cells #[.slice (some ⟨zx, 0, none⟩) zn zk, .string zv] 87)) from below_box (Below.refl _ _)).size) b7.size) | (at_builtin; refine wpList_appW leafT rfl _ _ rfl (w.heap.size + 1) _ 0 [] rfl own0 g 0 k vc (efs (L.take k)) rfl htl RT2 (efs_one _) hlen7.out (by decide) hb2 ?_; intro v6 w6 own6 b6 _ _; have D6 : Below w.heap.size w w6 := d2.trans (b6.mono (Nat.le_succ _)); have hb6 := Nat.le_trans hb2 b6.size; have M6 := M2.base (Nat.lt_succ_self _) b6; have k60 := M6.2.1 0 _ rfl; have k61 := M6.2.1 1 _ rfl))
        have D8 : Below w.heap.size w w8 := D7.trans (b8.mono (Nat.le_succ _))
        rw [List.nil_append] at own8
        have own9 : OwnW 87 2 w.heap.size v8 (k + 1) (efs (L.take k ++ ⟨⟨zn, zp, zv⟩, zx, zk⟩ :: L.drop k)) w8 := by
          refine ownW_base ?_ (Nat.le_succ w.heap.size)
          have e1 : efs (L.take k ++ ⟨⟨zn, zp, zv⟩, zx, zk⟩ :: L.drop k) = efs (L.take k) ++ [.slice (some ⟨zx, 0, none⟩) zn zk, .string zv] ++ [] := by rw [efs_append]; simp [efs, elf, hdn]
          rw [e1]
          have e2 : k + 1 = 0 + k + 1 + 0 := by omega
          rw [e2]
          exact own8
        clear own0 own6 own7 own8 k0 k1 k60 k61 M6 RT2 b6 b7 b8
        go_ret
        exact ⟨_, rfl, by rw [hLn]; exact own9, D8⟩
end Go.Proofs.YtnficndeblkjhaaGreatDoor
