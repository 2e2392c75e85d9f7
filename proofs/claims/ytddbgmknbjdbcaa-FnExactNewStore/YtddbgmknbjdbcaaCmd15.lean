/- Commands in memory: compared; lists of one's own. -/
import Derived.Test.YtddbgmknbjdbcaaAns15
namespace Go.Proofs.Ytddbgmknbjdbcaa
open Go.RowKit

/-- A command: whether it sets, its path and its value. -/
structure Cm15 where
  s : Bool
  t : Lf
def cm0 : Cm15 := ⟨false, lf0⟩
/-- N commands at a. -/
def RowC (a : Option Addr) (N : Nat) (U : Nat → Cm15) (w : World) : Prop := ∀ i, i < N → ∃ (b off : Nat) (a0 : Option Addr) (c0 : Nat), a = some ⟨b, off, none⟩ ∧ b < w.heap.size ∧
  w.cell? ⟨b, off + i * 3, none⟩ = some (.bool (U i).s) ∧ w.cell? ⟨b, off + i * 3 + 1, none⟩ = some (.slice a0 (U i).t.n c0) ∧ w.cell? ⟨b, off + i * 3 + 2, none⟩ = some (.string (U i).t.v) ∧ (U i).t.n ≤ c0 ∧ RowStr a0 (U i).t.n (U i).t.p w
theorem RowC.below {a : Option Addr} {N : Nat} {U : Nat → Cm15} {w w' : World} (h : RowC a N U w) (k : Below w.heap.size w w') : RowC a N U w' := by
  intro i hi
  obtain ⟨b, off, a0, c0, ha, hb, h0, h1, h2, hK, ht⟩ := h i hi
  obtain ⟨hc, _⟩ := bcell k
  exact ⟨b, off, a0, c0, ha, Nat.lt_of_lt_of_le hb k.size, (hc _ _ hb).trans h0, (hc _ _ hb).trans h1, (hc _ _ hb).trans h2, hK, ht.below k⟩
/-- The command at a place. -/
def TC (L : List Cm15) (i : Nat) : Cm15 := L.getD i cm0
theorem TC_eq {L : List Cm15} {i : Nat} (h : i < L.length) : TC L i = L[i] := by
  unfold TC
  rw [List.getD_eq_getElem?_getD, List.getElem?_eq_getElem h]
  rfl
set_option maxRecDepth 100000 in
set_option maxHeartbeats 800000 in
theorem w_eqCommand (a0 b0 : Option Addr) (c0 e0 : Nat) (u : Cm15) (w : World) (h0 : u.t.n ≤ 4294967296) (R : RowStr a0 u.t.n u.t.p w) (Q : RowStr b0 u.t.n u.t.p w) :
    Calls Try.prog 54 #[.agg #[.bool u.s, .slice a0 u.t.n c0, .string u.t.v], .agg #[.bool u.s, .slice b0 u.t.n e0, .string u.t.v]] w fun e w' => e = .returned (.bool true) ∧ Below w.heap.size w w' := by
  have s1 := hide (fun w R Q => w_eqStringS a0 b0 u.t.n c0 e0 u.t.p w h0 R Q)
  have k0 : (u.s != u.s) = false := by simp
  clear h0
  have d0 : Below w.heap.size w ((w.alloc (.cells #[.bool u.s, .slice a0 u.t.n c0, .string u.t.v] 71)).alloc (.cells #[.bool u.s, .slice b0 u.t.n e0, .string u.t.v] 71)) := below_box2 (Below.refl _ _)
  have M0 := (Mut.new w #[.bool u.s, .slice a0 u.t.n c0, .string u.t.v] 71).alloc (.cells #[.bool u.s, .slice b0 u.t.n e0, .string u.t.v] 71)
  have M1 := Mut.new (w.alloc (.cells #[.bool u.s, .slice a0 u.t.n c0, .string u.t.v] 71)) #[.bool u.s, .slice b0 u.t.n e0, .string u.t.v] 71
  simp only [World.size_alloc] at M1
  go_enter Try.func54, Try.ntmps54
  go_wp2_with fail
  generalize (w.alloc (.cells #[.bool u.s, .slice a0 u.t.n c0, .string u.t.v] 71)).alloc (.cells #[.bool u.s, .slice b0 u.t.n e0, .string u.t.v] 71) = w2 at *
  refine (s1.out _ (R.below d0) (Q.below d0)).mono ?_
  rintro e w3 ⟨rfl, hb3⟩
  have d3 := d0.trans (hb3.mono d0.size)
  have u1 := (M0.below hb3).2.1 2 _ rfl
  have v1 := (M1.below hb3).2.1 2 _ rfl
  clear M0 M1 hb3 d0 s1
  go_wp2_with fail
  go_ret
  exact ⟨rfl, d3⟩
set_option maxRecDepth 100000 in
set_option maxHeartbeats 3200000 in
theorem w_eqCommandS (a a' : Option Addr) (n c c' : Nat) (T : Nat → Cm15) (w : World) (hn : n ≤ 1048576) (hl : ∀ i, i < n → (T i).t.n ≤ 1048576) (hR : RowC a n T w) (hQ : RowC a' n T w) :
    Calls Try.prog 24 #[.slice a n c, .slice a' n c'] w fun e w' => e = .returned (.bool true) ∧ Below w.heap.size w w' := by
  have hne : ((n : Int) != (n : Int)) = false := by simp
  go_enter Try.func24, Try.ntmps24
  go_wp2_with fail
  go_loopw [5] (fun i wr => ∃ k : Nat, k ≤ n ∧ i = .int .i64 k ∧ Below w.heap.size w wr) (fun i _ => n - (intOf i).toNat)
  case atStart => exact ⟨0, Nat.zero_le _, rfl, Below.refl _ _⟩
  case round =>
    obtain ⟨k, hk, rfl, hb⟩ := hrel
    by_cases hlt : k < n
    · obtain ⟨b, off, a0, c0, rfl, hbw, u0, u1, u2, _, ht⟩ := hR k hlt
      obtain ⟨b', off', d0, e0, rfl, hbw', v0, v1, v2, _, hu⟩ := hQ k hlt
      replace u0 := cell_regrown ((hb.cell (p := ⟨b, off + k * 3, none⟩) hbw).trans u0)
      replace u1 := cell_regrown ((hb.cell (p := ⟨b, off + k * 3 + 1, none⟩) hbw).trans u1)
      replace u2 := cell_regrown ((hb.cell (p := ⟨b, off + k * 3 + 2, none⟩) hbw).trans u2)
      replace v0 := cell_regrown ((hb.cell (p := ⟨b', off' + k * 3, none⟩) hbw').trans v0)
      replace v1 := cell_regrown ((hb.cell (p := ⟨b', off' + k * 3 + 1, none⟩) hbw').trans v1)
      replace v2 := cell_regrown ((hb.cell (p := ⟨b', off' + k * 3 + 2, none⟩) hbw').trans v2)
      have hlt' : (k : Int) < (n : Int) := by omega
      have l1 := hl k hlt
      have E := hide (fun w hT hU => w_eqCommand a0 d0 c0 e0 (T k) w (by omega) hT hU)
      have hT := hide (ht.below hb)
      have hU := hide (hu.below hb)
      clear hR hQ l1 ht hu
      generalize T k = t at *
      go_wp2_with fail
      refine wp_region_quiet_below (by kernel_rfl) (by kernel_rfl) ?_
      repeat (first | go_big_quiet_step (((go_at_call 54; exact Calls.regrown_of (E.out _ (hT.out.below (below_regrown _ _ _)) (hU.out.below (below_regrown _ _ _)))))) | quiet_step (((go_at_call 54; exact Calls.regrown_of (E.out _ (hT.out.below (below_regrown _ _ _)) (hU.out.below (below_regrown _ _ _)))))))
      refine wpQuiet_nil ?_
      intro _ hw'
      obtain ⟨⟨dq, osq⟩, hw''⟩ := hw'
      subst hw''
      have hq := below_regrown wr dq osq
      generalize Go.Sort.grow (redrawn wr dq) osq = wq at hq ⊢
      have hbq := hb.trans (hq.mono hb.size)
      clear hq u0 v0 u1 v1 u2 v2
      go_wp2_with fail
      exact ⟨⟨k + 1, by omega, by go_num, hbq⟩, by simp [intOf]; omega⟩
    · have hlt' : ¬ (k : Int) < (n : Int) := by omega
      go_wp2_with fail
      go_ret
      exact ⟨rfl, hb⟩
/-- A command, the block of its path, and the room in it. -/
structure EC15 where
  s : Bool
  t : Lf
  x : Nat
  k : Nat
def EC15.c (e : EC15) : Cm15 := ⟨e.s, e.t⟩
def ecf (e : EC15) : List Value := [.bool e.s, .slice (some ⟨e.x, 0, none⟩) e.t.n e.k, .string e.t.v]
def ecs : List EC15 → List Value
  | [] => []
  | e :: L => ecf e ++ ecs L
theorem ecs_app : ∀ (L : List EC15) (e : EC15), ecs (L ++ [e]) = ecs L ++ ecf e
  | [], e => by simp [ecs]
  | x :: L, e => by simp [ecs, ecs_app L e]
theorem ecs_at : ∀ {L : List EC15} {i : Nat} (h : i < L.length), (ecs L)[i * 3]? = some (.bool (L[i]).s) ∧ (ecs L)[i * 3 + 1]? = some (.slice (some ⟨(L[i]).x, 0, none⟩) (L[i]).t.n (L[i]).k) ∧ (ecs L)[i * 3 + 2]? = some (.string (L[i]).t.v)
  | [], i, h => absurd h (Nat.not_lt_zero _)
  | x :: L, 0, _ => ⟨rfl, rfl, rfl⟩
  | x :: L, i + 1, h => by
    have hi : i < L.length := by simpa using h
    obtain ⟨h1, h2, h3⟩ := ecs_at hi
    have e : ecs (x :: L) = .bool x.s :: .slice (some ⟨x.x, 0, none⟩) x.t.n x.k :: .string x.t.v :: ecs L := rfl
    rw [e]
    exact ⟨by rw [show (i + 1) * 3 = i * 3 + 1 + 1 + 1 by omega]; simpa using h1, by rw [show (i + 1) * 3 + 1 = i * 3 + 1 + 1 + 1 + 1 by omega]; simpa using h2, by rw [show (i + 1) * 3 + 2 = i * 3 + 2 + 1 + 1 + 1 by omega]; simpa using h3⟩
theorem ecf_one (e : EC15) : ∀ u ∈ ecf e, u.oneCell' = true := by
  intro u hu
  simp only [ecf, List.mem_cons, List.not_mem_nil, or_false] at hu
  rcases hu with rfl | rfl | rfl <;> rfl
theorem cmdT : AggT Try.prog 42 71 (.agg #[.bool false, .slice none 0 0, .string ByteArray.empty]) 3 48 := ⟨Try.underlying42, by kernel_rfl, rfl, by decide⟩
/-- A list of commands of one's own, the paths too. -/
def LsC (base : Nat) (v : Value) (L : List EC15) (w : World) : Prop := OwnW 71 3 base v L.length (ecs L) w ∧ (∀ e, e ∈ L → base ≤ e.x ∧ e.t.n ≤ e.k ∧ OutStr e.x e.t.n e.t.n e.t.p w) ∧ (∀ b, v.ownBlock = some b → ∀ e, e ∈ L → e.x ≠ b) ∧ L.Pairwise (fun a b => a.x ≠ b.x)
theorem LsC.nil (base : Nat) (w : World) : LsC base (.slice none 0 0) [] w := ⟨ownW_nil _ _ _ _, fun e h => by simp at h, fun b h => by simp [Value.ownBlock] at h, .nil⟩
theorem LsC.below {base : Nat} {v : Value} {L : List EC15} {w w' : World} (h : LsC base v L w) (hb : Below w.heap.size w w') : LsC base v L w' :=
  ⟨ownW_below h.1 hb, fun e he => ⟨(h.2.1 e he).1, (h.2.1 e he).2.1, (h.2.1 e he).2.2.below hb⟩, h.2.2.1, h.2.2.2⟩
theorem LsC.base {base base' : Nat} {v : Value} {L : List EC15} {w : World} (h : LsC base v L w) (hb : base' ≤ base) : LsC base' v L w :=
  ⟨ownW_base h.1 hb, fun e he => ⟨Nat.le_trans hb (h.2.1 e he).1, (h.2.1 e he).2⟩, h.2.2.1, h.2.2.2⟩
theorem LsC.lt {base : Nat} {v : Value} {L : List EC15} {w : World} (h : LsC base v L w) {e : EC15} (he : e ∈ L) : e.x < w.heap.size := (h.2.1 e he).2.2.1
theorem LsC.onlyP {P : Nat → Prop} {base : Nat} {v : Value} {L : List EC15} {w w' : World} (h : LsC base v L w) (hb : OnlyP P w w') (hP : ∀ k, base ≤ k → k < w.heap.size → ¬ P k) : LsC base v L w' :=
  ⟨ownW_onlyP h.1 hb (fun k hk => by have := ownW_lt h.1 hk; exact hP k this.1 this.2), fun e he => ⟨(h.2.1 e he).1, (h.2.1 e he).2.1, (h.2.1 e he).2.2.onlyP hb (hP _ (h.2.1 e he).1 (h.2.1 e he).2.2.1)⟩, h.2.2.1, h.2.2.2⟩
theorem LsC.push {base : Nat} {v v' : Value} {L : List EC15} {w w' : World} (h : LsC base v L w) {e : EC15} (hb : base ≤ e.x) (hk : e.t.n ≤ e.k) (hO : OutStr e.x e.t.n e.t.n e.t.p w) (hx : ∀ z, z ∈ L → z.x ≠ e.x) (hv : v.ownBlock ≠ some e.x)
    (own' : OwnW 71 3 base v' (L.length + 1) (ecs L ++ ecf e) w') (g : w.grownBy w' v.ownBlock) (o : v'.ownBlock = v.ownBlock ∨ v'.ownBlock = some w.heap.size) : LsC base v' (L ++ [e]) w' := by
  have hv2 : ∀ z, z ∈ L → v.ownBlock ≠ some z.x := fun z hz q => h.2.2.1 _ q z hz rfl
  refine ⟨by rw [List.length_append, ecs_app]; exact own', ?_, ?_, ?_⟩
  · intro z hz
    rcases List.mem_append.1 hz with hz | hz
    · obtain ⟨h1, h2, h3⟩ := h.2.1 z hz
      exact ⟨h1, h2, h3.grown g (hv2 z hz)⟩
    · obtain rfl : z = e := by simpa using hz
      exact ⟨hb, hk, hO.grown g hv⟩
  · intro b hbb z hz
    have hlt : z.x < w.heap.size := by
      rcases List.mem_append.1 hz with hz | hz
      · exact h.lt hz
      · obtain rfl : z = e := by simpa using hz
        exact hO.1
    rcases o with o | o
    · rw [o] at hbb
      rcases List.mem_append.1 hz with hz | hz
      · exact h.2.2.1 b hbb z hz
      · obtain rfl : z = e := by simpa using hz
        exact fun q => hv (by rw [hbb, q])
    · rw [o] at hbb
      simp at hbb
      omega
  · rw [List.pairwise_append]
    refine ⟨h.2.2.2, List.pairwise_singleton _ _, fun z hz y hy => ?_⟩
    obtain rfl : y = e := by simpa using hy
    exact hx z hz
/-- As rows of commands. -/
theorem LsC.row {base : Nat} {v : Value} {L : List EC15} {w : World} (h : LsC base v L w) : ∃ a cap, v = .slice a L.length cap ∧ RowC a L.length (TC (L.map (·.c))) w := by
  obtain ⟨a, cap, rfl, hr, _⟩ := ownW_row h.1
  refine ⟨a, cap, rfl, fun i hi => ?_⟩
  obtain ⟨e1, e2, e3⟩ := ecs_at hi
  obtain ⟨b, off, ha, hb, c0⟩ := hr _ _ e1
  obtain ⟨b', off', ha', _, c1⟩ := hr _ _ e2
  obtain ⟨b'', off'', ha'', _, c2⟩ := hr _ _ e3
  rw [ha] at ha' ha''
  simp only [Option.some.injEq, Addr.mk.injEq, and_true] at ha' ha''
  obtain ⟨rfl, rfl⟩ := ha'
  obtain ⟨rfl, rfl⟩ := ha''
  obtain ⟨_, h2, h3⟩ := h.2.1 _ (List.getElem_mem hi)
  rw [TC_eq (by simpa using hi)]
  simp only [List.getElem_map, EC15.c]
  exact ⟨b, off, _, _, ha, hb, c0, c1, c2, h2, h3.row⟩
end Go.Proofs.Ytddbgmknbjdbcaa
