/- Leaves copied, by the program. -/
import Derived.Test.YtnficndeblkjhaaGreatDoorI16p
import Derived.Test.YtnficndeblkjhaaGreatDoorI16r
import Derived.Test.YtnficndeblkjhaaGreatDoorI16s
import Derived.Test.YtnficndeblkjhaaGreatDoorI16t
import Derived.Deep.RegionHeld3
import Derived.Test.YtnficndeblkjhaaGreatDoorGrp5
import Derived.Test.YtnficndeblkjhaaGreatDoorI15c
import Derived.Test.YtnficndeblkjhaaGreatDoorGrp3
import Derived.Lib.SliceRun
/- What a method answers, as values. -/
namespace Go.Proofs.YtnficndeblkjhaaGreatDoor
open Go.RowKit

/-- The two values that a method answers, in world X. -/
def MetV (gl gr : Addr) (w0 : World) (base : Nat) (s : Sto) (r : Sto × Bool) (v er : Value) (X : World) : Prop :=
  (er = .nilIface ∧ r.2 = true ∧ Stb w0.heap.size base (RowSt true v r.1) X) ∨
  (∃ b, v = zSt ∧ er = .iface 91 (.pointer (some ⟨b, 0, none⟩)) ∧ r = (s, false) ∧ base ≤ b ∧ FltAt b (.iface 173 (.pointer (some gr))) s w0 X) ∨
  (∃ b s', v = zSt ∧ er = .iface 91 (.pointer (some ⟨b, 0, none⟩)) ∧ r = (s', true) ∧ base ≤ b ∧ FltAt b (.iface 173 (.pointer (some gl))) s' w0 X)
theorem MetP.vals {gl gr : Addr} {w0 : World} {base : Nat} {s : Sto} {r : Sto × Bool} {w w' : World} {e : Ending} (h : MetP gl gr w0 base s r w e w') : Below w.heap.size w w' ∧ ∃ v er, e = .returned (.tuple #[v, er]) ∧ MetV gl gr w0 base s r v er w' := by
  obtain ⟨hb, h⟩ := h
  refine ⟨hb, ?_⟩
  rcases h with ⟨v, rfl, h1, h2⟩ | ⟨b, rfl, h1, h2, h3⟩ | ⟨b, s', rfl, h1, h2, h3⟩
  · exact ⟨v, _, rfl, .inl ⟨rfl, h1, h2⟩⟩
  · exact ⟨_, _, rfl, .inr (.inl ⟨b, rfl, rfl, h1, h2, h3⟩)⟩
  · exact ⟨_, _, rfl, .inr (.inr ⟨b, s', rfl, rfl, h1, h2, h3⟩)⟩
theorem MetV.met {gl gr : Addr} {w0 : World} {base : Nat} {s : Sto} {r : Sto × Bool} {w w' : World} {v er : Value} (h : MetV gl gr w0 base s r v er w') (hb : Below w.heap.size w w') : MetP gl gr w0 base s r w (.returned (.tuple #[v, er])) w' := by
  refine ⟨hb, ?_⟩
  rcases h with ⟨rfl, h1, h2⟩ | ⟨b, rfl, rfl, h1, h2, h3⟩ | ⟨b, s', rfl, rfl, h1, h2, h3⟩
  · exact .inl ⟨v, rfl, h1, h2⟩
  · exact .inr (.inl ⟨b, rfl, h1, h2, h3⟩)
  · exact .inr (.inr ⟨b, s', rfl, h1, h2, h3⟩)
theorem MetV.only {gl gr : Addr} {w0 : World} {base : Nat} {s : Sto} {r : Sto × Bool} {X X' : World} {v er : Value} (h : MetV gl gr w0 base s r v er X) (on : OnlyP (fun k => w0.heap.size ≤ k ∧ k < base) X X') : MetV gl gr w0 base s r v er X' := by
  rcases h with ⟨rfl, h1, h2⟩ | ⟨b, rfl, rfl, h1, h2, h3⟩ | ⟨b, s', rfl, rfl, h1, h2, h3⟩
  · exact .inl ⟨rfl, h1, h2.only on⟩
  · exact .inr (.inl ⟨b, rfl, rfl, h1, h2, h3.onlyP on (fun h => by have h := h.2; omega)⟩)
  · exact .inr (.inr ⟨b, s', rfl, rfl, h1, h2, h3.onlyP on (fun h => by have h := h.2; omega)⟩)
theorem MetV.less {gl gr : Addr} {w0 : World} {base base' : Nat} {s : Sto} {r : Sto × Bool} {X : World} {v er : Value} (h : MetV gl gr w0 base s r v er X) (hb : base' ≤ base) : MetV gl gr w0 base' s r v er X := by
  rcases h with ⟨rfl, h1, h2⟩ | ⟨b, rfl, rfl, h1, h2, h3⟩ | ⟨b, s', rfl, rfl, h1, h2, h3⟩
  · exact .inl ⟨rfl, h1, h2.less (Nat.le_refl _) hb⟩
  · exact .inr (.inl ⟨b, rfl, rfl, h1, Nat.le_trans hb h2, h3⟩)
  · exact .inr (.inr ⟨b, s', rfl, rfl, h1, Nat.le_trans hb h2, h3⟩)
theorem MetV.form {gl gr : Addr} {w0 : World} {base : Nat} {s : Sto} {r : Sto × Bool} {X : World} {v er : Value} (h : MetV gl gr w0 base s r v er X) : ∃ ca cn kc ra rn kr ha hn kh l, v = .agg #[.slice ca cn kc, .slice ra rn kr, .slice ha hn kh, .int .i64 l] := by
  rcases h with ⟨rfl, h1, h2⟩ | ⟨b, rfl, rfl, h1, h2, h3⟩ | ⟨b, s', rfl, rfl, h1, h2, h3⟩
  · obtain ⟨ca, kc, ra, kr, ha, kh, e⟩ := h2.here.form
    exact ⟨ca, _, kc, ra, _, kr, ha, _, kh, _, e⟩
  · exact ⟨none, 0, 0, none, 0, 0, none, 0, 0, 0, rfl⟩
  · exact ⟨none, 0, 0, none, 0, 0, none, 0, 0, 0, rfl⟩
end Go.Proofs.YtnficndeblkjhaaGreatDoor

/- One op of a store. -/


namespace Go.Proofs.YtnficndeblkjhaaGreatDoor
open Go.RowKit

theorem i_refusedP (v : Value) (s : Sto) (gl gr : Addr) (w0 w : World) (hG : GW gl gr w) (hb : Below w0.heap.size w0 w) (hR : RowSt true v s w0) :
    Calls Tryz.prog 65 #[v] w (MetP gl gr w0 w.heap.size s (s, false) w) := by
  refine (i_refused v s gl gr w0 w hG hR).mono ?_
  rintro e w' ⟨b, rfl, h1, h2, h3⟩
  have _ := hb
  exact ⟨h3, .inr (.inl ⟨b, rfl, rfl, h1, h2⟩)⟩
set_option maxRecDepth 100000 in
set_option maxHeartbeats 1600000 in
theorem i_stepN (v : Value) (s : Sto) (o : OpX) (pa : Option Addr) (pc : Nat) (gl gr : Addr) (w0 w : World) (hG : GW gl gr w) (hb : Below w0.heap.size w0 w) (hR : RowSt true v s w0) (hN : ¬ NeedX o) :
    Calls Tryz.prog 36 #[v, .agg #[.int .i64 o.k, .slice pa o.n pc, .string o.v, .int .i64 o.N]] w (MetP gl gr w0 w.heap.size s (stepX s o) w) := by
  obtain ⟨ca, kc, ra, kr, ha, kh, rfl, R1, R2, R3, R4⟩ := hR
  have hRS : RowSt true (stV s ca kc ra kr ha kh) s w0 := ⟨ca, kc, ra, kr, ha, kh, rfl, R1, R2, R3, R4⟩
  unfold stV
  unfold stV at hRS
  have M1 := ((Mut.new w #[.slice ca s.C.n kc, .slice ra s.R.n kr, .slice ha s.h kh, .int .i64 s.l] 34).alloc (.cells #[.int .i64 o.k, .slice pa o.n pc, .string o.v, .int .i64 o.N] 38)).alloc (.cells #[.slice none 0 0, .slice none 0 0, .slice none 0 0, .int .i64 0] 34)
  have MO := (Mut.new (w.alloc (.cells #[.slice ca s.C.n kc, .slice ra s.R.n kr, .slice ha s.h kh, .int .i64 s.l] 34)) #[.int .i64 o.k, .slice pa o.n pc, .string o.v, .int .i64 o.N] 38).alloc (.cells #[.slice none 0 0, .slice none 0 0, .slice none 0 0, .int .i64 0] 34)
  have M2 := Mut.new ((w.alloc (.cells #[.slice ca s.C.n kc, .slice ra s.R.n kr, .slice ha s.h kh, .int .i64 s.l] 34)).alloc (.cells #[.int .i64 o.k, .slice pa o.n pc, .string o.v, .int .i64 o.N] 38)) #[.slice none 0 0, .slice none 0 0, .slice none 0 0, .int .i64 0] 34
  have d1 : Below w.heap.size w (((w.alloc (.cells #[.slice ca s.C.n kc, .slice ra s.R.n kr, .slice ha s.h kh, .int .i64 s.l] 34)).alloc (.cells #[.int .i64 o.k, .slice pa o.n pc, .string o.v, .int .i64 o.N] 38)).alloc (.cells #[.slice none 0 0, .slice none 0 0, .slice none 0 0, .int .i64 0] 34)) := below_box3 (Below.refl _ _)
  simp only [World.size_alloc] at MO M2
  have HN := hide (fun w => i_hasNeedless o pa pc w)
  go_enter Tryz.func36, Tryz.ntmps36
  go_wp2_with fail
  generalize (((w.alloc (.cells #[.slice ca s.C.n kc, .slice ra s.R.n kr, .slice ha s.h kh, .int .i64 s.l] 34)).alloc (.cells #[.int .i64 o.k, .slice pa o.n pc, .string o.v, .int .i64 o.N] 38)).alloc (.cells #[.slice none 0 0, .slice none 0 0, .slice none 0 0, .int .i64 0] 34)) = wa at *
  refine (HN.out _).mono ?_
  rintro e w1 ⟨rfl, bb⟩
  replace M1 := M1.below bb
  replace MO := MO.below bb
  replace M2 := M2.below bb
  replace d1 := d1.trans (bb.mono d1.size)
  have hw2 : w.heap.size + 1 + 1 < w1.heap.size := M2.1
  have hGB := hG.below d1
  have hB1 := hb.trans (d1.mono hb.size)
  clear bb HN
  rw [tB_t hN]
  have v0 := M1.2.1 0 _ rfl
  have v1 := M1.2.1 1 _ rfl
  have v2 := M1.2.1 2 _ rfl
  have v3 := M1.2.1 3 _ rfl
  go_wp2_with fail
  refine (i_refusedP (.agg #[.slice ca s.C.n kc, .slice ra s.R.n kr, .slice ha s.h kh, .int .i64 s.l]) s gl gr w0 w1 hGB hB1 hRS).mono ?_
  intro e w2 hm
  obtain ⟨bb, vv, er, rfl, MV⟩ := hm.vals
  have M22 := M2.below bb
  have d2 := d1.trans (bb.mono d1.size)
  clear hm bb
  obtain ⟨xa, xn, xk, ya, yn, yk, za, zn, zk, zl, hvf⟩ := MV.form
  subst hvf
  go_wp2_with (refine wpList_storeM (us := [.slice xa xn xk, .slice ya yn yk, .slice za zn zk, .int .i64 zl]) rfl rfl rfl rfl M22 rfl (by intro v hv; simp only [List.mem_cons, List.not_mem_nil, or_false] at hv; rcases hv with rfl | rfl | rfl | rfl <;> rfl) sizeSto ?_; intro w9 M9 o9)
  have on := OnlyP.of_only (P := fun x => x = w.heap.size + 1 + 1) o9 rfl
  have e9 := (d2).trans (on.below (base := w.heap.size) (fun x _ hx => by have h : x = w.heap.size + 1 + 1 := hx; omega) (d2).size)
  have hb0 := hb.size
  have MW := (MV.only (on.mono (fun x _ hx => by have h : x = w.heap.size + 1 + 1 := hx; exact ⟨by omega, by omega⟩))).less (base' := w.heap.size) (by omega)
  have r0 := M9.2.1 0 _ rfl
  have r1 := M9.2.1 1 _ rfl
  have r2 := M9.2.1 2 _ rfl
  have r3 := M9.2.1 3 _ rfl
  rw [stepX_no hN]
  have MQ := MW.met e9
  exact bodyPost_ret (v := .tuple #[.agg #[.slice xa xn xk, .slice ya yn yk, .slice za zn zk, .int .i64 zl], er]) (by simp [results, Tryz.results36, go_sem, r0, r1, r2, r3]) rfl MQ
end Go.Proofs.YtnficndeblkjhaaGreatDoor

/- Leaves of one's own stay behind writes into boxes that came before them. -/
namespace Go.Proofs.YtnficndeblkjhaaGreatDoor
open Go.RowKit

theorem LsF.stb {base : Nat} {v : Value} {L : List El15} {M : List Lf} {w : World} (h : LsF base v L w) (hM : L.map (·.t) = M) : ∃ la lc, v = .slice la M.length lc ∧ ∀ lo, Stb lo base (RowF true la M.length (TF M)) w := by
  subst hM
  have hl : (L.map (·.t)).length = L.length := by simp
  obtain ⟨la, lc, hv, _⟩ := h.row
  refine ⟨la, lc, by rw [hl]; exact hv, fun lo X on => ?_⟩
  obtain ⟨a2, c2, hv2, hr2⟩ := (h.onlyP on (fun k hk _ hq => by have := hq.2; omega)).row
  rw [hv] at hv2
  simp only [Value.slice.injEq, true_and] at hv2
  obtain ⟨rfl, rfl⟩ := hv2
  rw [hl]
  exact hr2
end Go.Proofs.YtnficndeblkjhaaGreatDoor

/- What is got of a configuration, of the program. -/
namespace Go.Proofs.YtnficndeblkjhaaGreatDoor
open Go.RowKit

end Go.Proofs.YtnficndeblkjhaaGreatDoor

namespace Go.Proofs.YtnficndeblkjhaaGreatDoor
open Go.RowKit

set_option maxRecDepth 100000 in
set_option maxHeartbeats 800000 in
theorem i_cloneS (a : Option Addr) (n c : Nat) (f : Nat → ByteArray) (w : World) (h0 : 1 ≤ n) (hn : n ≤ 1048576) (hR : RowStr a n f w) :
    Calls Tryz.prog 100 #[.slice a n c] w fun e w' => ∃ g cap, e = .returned (.slice (some ⟨g, 0, none⟩) n cap) ∧ w.heap.size ≤ g ∧ n ≤ cap ∧ OutStr g n n f w' ∧ Below w.heap.size w w' := by
  have q22 : ∀ (w : World) (a : Option Addr) (n c n' c' : Nat), (binOp .eql 26 (.slice a n c) (.slice none n' c')).run Tryz.prog w = .ok (.bool a.isNone) w := fun w a n c n' c' => Lib.run_eql_slice_nil w _ _ a n c n' c' Tryz.underlying26
  obtain ⟨b, off, rfl, _, _⟩ := hR 0 h0
  have hl := listS_len n f
  have hM : SrcT (some ⟨b, off, none⟩) (listS n f) c w := ⟨RowT.of_str hR, .inr ⟨b, off, rfl⟩⟩
  have hM2 := hM.below (below_box (o := .cells #[] 9) (Below.refl _ _))
  have own : OwnT 9 w.heap.size (.slice (some ⟨w.heap.size, 0, none⟩) 0 0) [] (w.alloc (.cells #[] 9)) := by simpa [tcells] using ownT_made 9 w [] (by simp)
  clear hR hM
  go_enter Tryz.func100, Tryz.ntmps100
  go_wp2_with (first | (at_builtin; refine wpList_appT strT (by rfl) _ _ (by rfl) w.heap.size _ [] (by rfl) own (some ⟨b, off, none⟩) (listS n f) n c (by rfl) hl.symm hM2 (by rw [hl]; simp; omega) (by decide) (by simp) ?_; intro v9 w9 own9 b9 _ _))
  rw [List.nil_append] at own9
  obtain ⟨g, cap, rfl, hc, hg, hO⟩ := ownT_outS own9 h0
  have dA : Below w.heap.size w (w.alloc (.cells #[] 9)) := below_box (Below.refl _ _)
  have d9 := dA.trans b9
  go_wp2_with fail
  go_ret
  exact ⟨g, cap, rfl, hg, hc, hO, d9⟩
set_option maxRecDepth 100000 in
set_option maxHeartbeats 3200000 in
theorem i_ownLeaves (a : Option Addr) (N c : Nat) (T : Nat → Lf) (w : World) (hN : N ≤ 1048576) (hl : ∀ i, i < N → 1 ≤ (T i).n ∧ (T i).n ≤ 1048576) (hR : RowF false a N T w) :
    Calls Tryz.prog 75 #[.slice a N c] w fun e w' => ∃ v, e = .returned v ∧ ∃ L, LsF w.heap.size v L w' ∧ L.map (·.t) = lsF N T ∧ Below w.heap.size w w' := by
  go_enter Tryz.func75, Tryz.ntmps75
  go_wp2_with fail
  go_loopw [3, 5, 8] (fun x _ y wr => ∃ (k : Nat) (L : List El15), y = .int .i64 k ∧ k ≤ N ∧ L.length = k ∧ LsF w.heap.size x L wr ∧ Hid (L.map (·.t) = lsF k T) ∧ Below w.heap.size w wr) (fun _ _ y _ => N - (intOf y).toNat)
  case atStart => exact ⟨0, [], rfl, Nat.zero_le _, rfl, LsF.nil _ _, rfl, Below.refl _ _⟩
  case round =>
    obtain ⟨k, L, rfl, hk, hLk, LL, hm, hb⟩ := hrel
    by_cases hlt : k < N
    · obtain ⟨b0, off, a0, c0, rfl, hbw, u0, u1, _, R0⟩ := hR k hlt
      replace u0 := (hb.cell (p := ⟨b0, off + k * 2, none⟩) hbw).trans u0
      replace u1 := (hb.cell (p := ⟨b0, off + k * 2 + 1, none⟩) hbw).trans u1
      have hlt' : (k : Int) < (N : Int) := by omega
      obtain ⟨l0, l1⟩ := hl k hlt
      have hmN := hide (fun (x q : Nat) => (show (L ++ [(⟨T k, x, q⟩ : El15)]).map (·.t) = lsF (k + 1) T by rw [lsF_succ, List.map_append, hm.out]; rfl))
      have M := Mut.new wr #[.slice a0 (T k).n c0, .string (T k).v] 87
      have bB : Below wr.heap.size wr (wr.alloc (.cells #[.slice a0 (T k).n c0, .string (T k).v] 87)) := below_box (Below.refl _ _)
      have d1 := below_step hb bB
      have LL1 := hide (LL.below bB)
      have hob : Hid (∀ b, u3.ownBlock = some b → b < wr.heap.size) := fun b hq => (ownW_lt LL.1 hq).2
      have hxl : Hid (∀ z, z ∈ L → z.x < wr.heap.size) := fun z hz => LL.lt hz
      have R0 := hide (R0.below d1)
      have hbs := d1.size
      have hws := hb.size
      clear hm hl hR LL bB hb
      generalize T k = t at *
      obtain ⟨tn, tp, tv⟩ := t
      dsimp only at *
      go_wp2_with fail
      generalize wr.alloc (.cells #[.slice a0 tn c0, .string tv] 87) = w1 at *
      have hbx : wr.heap.size < w1.heap.size := M.1
      generalize wr.heap.size = bx at *
      clear u0 u1
      have k0 := M.2.1 0 _ rfl
      have k1 := M.2.1 1 _ rfl
      have hkW : w1.cell? ⟨bx, 0, none⟩ = some (.slice a0 tn c0) ∧ w1.cell? ⟨bx, 1, none⟩ = some (.string tv) := ⟨k0, k1⟩
      have KP := hide (fun w' (h : Mut w' bx [.slice a0 tn c0, .string tv]) => And.intro (h.2.1 0 _ rfl) (h.2.1 1 _ rfl))
      have h1c : Hid (∀ (x q : Nat), ∀ u ∈ ([.slice (some ⟨x, 0, none⟩) tn q, .string tv] : List Value), u.oneCell' = true) := fun x q => elf_one ⟨⟨tn, tp, tv⟩, x, q⟩
      have hlen9 : Hid (L.length + 1 ≤ 8589934593) := by show _ ≤ _; omega
      have vob : Hid (u3.ownBlock ≠ some bx) := fun e => by have := hob.out _ e; omega
      have CL := hide (fun w R => i_cloneS a0 tn c0 tp w l0 l1 R)
      go_region_held3 (fun w' => w'.cell? ⟨bx, 0, none⟩ = some (.slice a0 tn c0) ∧ w'.cell? ⟨bx, 1, none⟩ = some (.string tv)) (first | with_reducible exact hk9 | with_reducible exact hkC | with_reducible exact hkW | go_keep)
        (first
          | (have hq := LLC; refine step_appW leafT (by rfl) _ _ (by rfl) w.heap.size u3 L.length (efs L) (by rfl) (by first | with_reducible exact ownW_below ownC (below_box (Below.refl _ _)) | with_reducible exact ownW_below ownC (below_box (Below.refl _ _)).drew) wC.heap.size 0 1 1 [.slice (some ⟨g, 0, none⟩) tn cap, .string tv] (by rfl) (by rfl) (by first | with_reducible exact RowW.mut (Mut.new wC _ _) | with_reducible exact (RowW.mut (Mut.new wC _ _)).below (Below.refl _ _).drew) (h1c.out g cap) hlen9.out (by decide) (by first | exact Nat.le_trans hbC (below_box (Below.refl _ _)).size | (simp; omega)) ?_; intro v9 w9 own9 b9 gr9 ob9; replace own9 : OwnW 87 2 w.heap.size v9 (L.length + 1) (efs L ++ elf ⟨⟨tn, tp, tv⟩, g, cap⟩) w9 := own9; have d9 : Below w.heap.size wC w9 := (by first | exact ((below_box (Below.refl _ _)).mono hbC).trans b9 | exact ((below_box (Below.refl _ _)).drew.mono hbC).trans b9); have hk9 := KP.out w9 (by first | with_reducible exact ((M.below dC).below (below_box (Below.refl _ _))).grown15 gr9 vob.out | with_reducible exact ((M.below dC).below (below_box (Below.refl _ _)).drew).grown15 gr9 vob.out); have L9 : LsF w.heap.size v9 (L ++ [⟨⟨tn, tp, tv⟩, g, cap⟩]) w9 := (by first | with_reducible exact (LLC.below (below_box (Below.refl _ _))).push (e := ⟨⟨tn, tp, tv⟩, g, cap⟩) hgb hcap (oC.below (below_box (Below.refl _ _))) hzC hvC own9 gr9 ob9 | with_reducible exact (LLC.below (below_box (Below.refl _ _)).drew).push (e := ⟨⟨tn, tp, tv⟩, g, cap⟩) hgb hcap (oC.below (below_box (Below.refl _ _)).drew) hzC hvC own9 gr9 ob9))
          | (go_at_call 100; refine (CL.out _ (by first | with_reducible exact R0.out | with_reducible exact R0.out.below (Below.refl _ _).drew)).mono ?_; rintro e wC ⟨g, cap, rfl, hg, hcap, oC, bC⟩; have dC : Below w1.heap.size w1 wC := (by first | exact bC | exact below_drew0 bC); replace hg : w1.heap.size ≤ g := (by first | exact hg | simpa using hg); have hgb : w.heap.size ≤ g := Nat.le_trans hbs hg; have hkC := KP.out _ (M.below dC); have LLC := LL1.out.below dC; have ownC := LLC.1; have hbC : w.heap.size ≤ wC.heap.size := Nat.le_trans hbs dC.size; have hzC : ∀ z, z ∈ L → z.x ≠ g := (fun z hz => by have := hxl.out z hz; omega); have hvC : u3.ownBlock ≠ some g := (fun e => by have := hob.out _ e; omega)))
      all_goals
        have D9 : Below w.heap.size w w9 := d1.trans ((dC.mono d1.size).trans d9)
        have hmN := hmN.out g cap
        clear hk9 hkW k0 k1 d9 gr9 ob9 own9 ownC LLC oC dC hzC hvC hg hcap hob hxl KP M LL1
        go_wp2_with fail
        exact ⟨⟨k + 1, _, by go_num, by omega, by simp [hLk], L9, hmN, D9⟩, by simp [intOf]; omega⟩
    · have hlt' : ¬ (k : Int) < (N : Int) := by omega
      obtain rfl : k = N := by omega
      have hm := hm.out
      go_wp2_with fail
      go_ret
      exact ⟨_, rfl, L, LL, hm, hb⟩
end Go.Proofs.YtnficndeblkjhaaGreatDoor
