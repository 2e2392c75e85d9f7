/- Reading updates: the program's takeUpdate in plain terms. -/
import Derived.Test.YtoeephmdklmpfaaI4n
import Derived.Test.YtoeephmdklmpfaaPlain4r
/- Reading lists: what the program's takeAttrs answers, from what its parts answer. -/
namespace Go.Proofs.Ytoeephmdklmpfaa
open Go.RowKit

theorem Fr.set {w : World} {b g x : Nat} {L : List Int} {c : Int} (h : Fr w b g L c) (hb : b ≠ x) (hg : g ≠ x) (i : Nat) (v : Value) : Fr (w.setCell ⟨x, i, none⟩ v) b g L c := by
  obtain ⟨L', h1, h2, h3⟩ := h
  exact ⟨L', h1.only ((Only.refl x w).setCell i v) hb hg, h2, h3⟩
theorem ownN_set {e : TypeId} {k : IntKind} {w : World} {base x : Nat} {v : Value} {L : List Int} (h : OwnN e k base v L w) (hx : x < base) (i : Nat) (u : Value) : OwnN e k base v L (w.setCell ⟨x, i, none⟩ u) :=
  ownN_only h ((Only.refl x w).setCell i u) (by
    intro q
    have := (World.ownsRow.lt h x q).1
    omega)
theorem ownN_off {e : TypeId} {k : IntKind} {w w' : World} {base x : Nat} {v : Value} {L : List Int} (h : OwnN e k base v L w) (hx : x < base) (o : Only x w w') : OwnN e k base v L w' :=
  ownN_only h o (by
    intro q
    have := (World.ownsRow.lt h x q).1
    omega)
/-- A number was read: L and c are left. -/
def NumF (b g : Nat) (v : Int) (L : List Int) (c : Int) (w : World) (e : Ending) (w' : World) : Prop := e = .returned (.int .i64 v) ∧ Fr w' b g L c ∧ Only b w w'
/-- Numbers were read: L and c are left. -/
def NumsF (b g : Nat) (V L : List Int) (c : Int) (w : World) (e : Ending) (w' : World) : Prop :=
  ∃ v Y, e = .returned v ∧ OwnN 3 .i64 w.heap.size v Y w' ∧ Only b w w' ∧ Fr w' b g L c ∧ Hid (c = 0 → Y = V)
/-- Attrs were read: L and c6 are left. -/
def AttrF (b g : Nat) (v0 : Int) (V1 : List Int) (v2 v3 v4 : Int) (V5 L : List Int) (c1 c5 : Int) (w : World) (e : Ending) (w' : World) : Prop :=
  ∃ vp Yp vc Yc M, e = .returned (.agg #[.int .i64 v0, vp, .int .i64 v2, .int .i64 v3, .int .i64 v4, vc]) ∧ OwnN 3 .i64 w.heap.size vp Yp w' ∧ OwnN 3 .i64 M vc Yc w' ∧ w.heap.size ≤ M ∧ M ≤ w'.heap.size ∧ (∀ k, vp.ownBlock = some k → k < M) ∧ Only b w w' ∧ Fr w' b g L c5 ∧ Hid (c1 = 0 → Yp = V1) ∧ Hid (c5 = 0 → Yc = V5)
set_option maxRecDepth 100000 in
set_option maxHeartbeats 3200000 in
theorem i_attrs (b g : Nat) (v0 v2 v3 v4 : Int) (V1 V5 L L0 L1 L2 L3 L4 L5 : List Int) (c c0 c1 c2 c3 c4 c5 : Int) (w : World) (hg : g < b) (R : Fr w b g L c)
    (s0 : Hid (∀ w, Fr w b g L c → Calls Try.prog 143 #[.pointer (some ⟨b, 0, none⟩), .int .i64 1] w (NumF b g v0 L0 c0 w)))
    (s1 : Hid (∀ w, Fr w b g L0 c0 → Calls Try.prog 145 #[.pointer (some ⟨b, 0, none⟩), .int .i64 2] w (NumsF b g V1 L1 c1 w)))
    (s2 : Hid (∀ w, Fr w b g L1 c1 → Calls Try.prog 143 #[.pointer (some ⟨b, 0, none⟩), .int .i64 4] w (NumF b g v2 L2 c2 w)))
    (s3 : Hid (∀ w, Fr w b g L2 c2 → Calls Try.prog 143 #[.pointer (some ⟨b, 0, none⟩), .int .i64 3] w (NumF b g v3 L3 c3 w)))
    (s4 : Hid (∀ w, Fr w b g L3 c3 → Calls Try.prog 143 #[.pointer (some ⟨b, 0, none⟩), .int .i64 3] w (NumF b g v4 L4 c4 w)))
    (s5 : Hid (∀ w, Fr w b g L4 c4 → Calls Try.prog 145 #[.pointer (some ⟨b, 0, none⟩), .int .i64 3] w (NumsF b g V5 L5 c5 w)))
    : Calls Try.prog 110 #[.pointer (some ⟨b, 0, none⟩)] w (AttrF b g v0 V1 v2 v3 v4 V5 L5 c1 c5 w) := by
  have hlt := R.lt
  have X := (Mut.new w #[.int .i64 0, .slice none 0 0, .int .i64 0, .int .i64 0, .int .i64 0, .slice none 0 0] 25).alloc (.cells #[.int .i64 0, .slice none 0 0, .int .i64 0, .int .i64 0, .int .i64 0, .slice none 0 0] 25)
  have Y := Mut.new (w.alloc (.cells #[.int .i64 0, .slice none 0 0, .int .i64 0, .int .i64 0, .int .i64 0, .slice none 0 0] 25)) #[.int .i64 0, .slice none 0 0, .int .i64 0, .int .i64 0, .int .i64 0, .slice none 0 0] 25
  simp only [World.size_alloc] at Y
  have R := (R.below (below_box2 (Below.refl _ _) : Below w.heap.size w ((w.alloc (.cells #[.int .i64 0, .slice none 0 0, .int .i64 0, .int .i64 0, .int .i64 0, .slice none 0 0] 25)).alloc (.cells #[.int .i64 0, .slice none 0 0, .int .i64 0, .int .i64 0, .int .i64 0, .slice none 0 0] 25))))
  have d : Only b w ((w.alloc (.cells #[.int .i64 0, .slice none 0 0, .int .i64 0, .int .i64 0, .int .i64 0, .slice none 0 0] 25)).alloc (.cells #[.int .i64 0, .slice none 0 0, .int .i64 0, .int .i64 0, .int .i64 0, .slice none 0 0] 25)) := ((Only.refl b w).alloc _).alloc _
  go_enter Try.func110, Try.ntmps110
  go_wp2_with fail
  generalize (w.alloc (.cells #[.int .i64 0, .slice none 0 0, .int .i64 0, .int .i64 0, .int .i64 0, .slice none 0 0] 25)).alloc (.cells #[.int .i64 0, .slice none 0 0, .int .i64 0, .int .i64 0, .int .i64 0, .slice none 0 0] 25) = u at *
  generalize hr : w.heap.size = r at *
  have hr2 : w.heap.size ≤ r := Nat.le_of_eq hr
  have hr3 : r ≤ w.heap.size := Nat.le_of_eq hr.symm
  clear hr
  refine (s0.out _ R).mono ?_
  rintro e w0 ⟨rfl, R, o⟩
  have X := X.only o (by omega)
  have Y := Y.only o (by omega)
  have d := d.trans o
  clear o
  have k0 := Y.2.1 0 _ rfl
  have f0 := Y.2.2 0 (by simp)
  go_wp2_with fail
  have Y := Y.set 0 (.int .i64 v0)
  have X := X.other (c := r + 1) (by omega) 0 (.int .i64 v0)
  have R := R.set (x := r + 1) (by omega) (by omega) 0 (.int .i64 v0)
  have d := d.setNew (b := r + 1) (by omega) 0 (.int .i64 v0)
  simp only [List.set] at Y
  clear k0 f0
  generalize w0.setCell ⟨r + 1, 0, none⟩ (.int .i64 v0) = u0 at *
  refine (s1.out _ R).mono ?_
  rintro e w1 ⟨x1, Y1, rfl, Q1, o, R, z1⟩
  obtain ⟨a1, n1, rfl, -⟩ := ownN_row Q1
  have hs := Y.1
  have Q1 := ownN_base Q1 (show r + 2 ≤ u0.heap.size by omega)
  have X := X.only o (by omega)
  have Y := Y.only o (by omega)
  have d := d.trans o
  clear o
  have k1 := Y.2.1 1 _ rfl
  have f1 := Y.2.2 1 (by simp)
  go_wp2_with fail
  have Y := Y.set 1 (.slice a1 Y1.length n1)
  have X := X.other (c := r + 1) (by omega) 1 (.slice a1 Y1.length n1)
  have R := R.set (x := r + 1) (by omega) (by omega) 1 (.slice a1 Y1.length n1)
  have d := d.setNew (b := r + 1) (by omega) 1 (.slice a1 Y1.length n1)
  have Q1 := ownN_set (x := r + 1) Q1 (by omega) 1 (.slice a1 Y1.length n1)
  simp only [List.set] at Y
  clear k1 f1
  generalize w1.setCell ⟨r + 1, 1, none⟩ (.slice a1 Y1.length n1) = u1 at *
  refine (s2.out _ R).mono ?_
  rintro e w2 ⟨rfl, R, o⟩
  have Q1 := ownN_off Q1 (by omega) o
  have X := X.only o (by omega)
  have Y := Y.only o (by omega)
  have d := d.trans o
  clear o
  have k2 := Y.2.1 2 _ rfl
  have f2 := Y.2.2 2 (by simp)
  go_wp2_with fail
  have Y := Y.set 2 (.int .i64 v2)
  have X := X.other (c := r + 1) (by omega) 2 (.int .i64 v2)
  have R := R.set (x := r + 1) (by omega) (by omega) 2 (.int .i64 v2)
  have d := d.setNew (b := r + 1) (by omega) 2 (.int .i64 v2)
  have Q1 := ownN_set (x := r + 1) Q1 (by omega) 2 (.int .i64 v2)
  simp only [List.set] at Y
  clear k2 f2
  generalize w2.setCell ⟨r + 1, 2, none⟩ (.int .i64 v2) = u2 at *
  refine (s3.out _ R).mono ?_
  rintro e w3 ⟨rfl, R, o⟩
  have Q1 := ownN_off Q1 (by omega) o
  have X := X.only o (by omega)
  have Y := Y.only o (by omega)
  have d := d.trans o
  clear o
  have k3 := Y.2.1 3 _ rfl
  have f3 := Y.2.2 3 (by simp)
  go_wp2_with fail
  have Y := Y.set 3 (.int .i64 v3)
  have X := X.other (c := r + 1) (by omega) 3 (.int .i64 v3)
  have R := R.set (x := r + 1) (by omega) (by omega) 3 (.int .i64 v3)
  have d := d.setNew (b := r + 1) (by omega) 3 (.int .i64 v3)
  have Q1 := ownN_set (x := r + 1) Q1 (by omega) 3 (.int .i64 v3)
  simp only [List.set] at Y
  clear k3 f3
  generalize w3.setCell ⟨r + 1, 3, none⟩ (.int .i64 v3) = u3 at *
  refine (s4.out _ R).mono ?_
  rintro e w4 ⟨rfl, R, o⟩
  have Q1 := ownN_off Q1 (by omega) o
  have X := X.only o (by omega)
  have Y := Y.only o (by omega)
  have d := d.trans o
  clear o
  have k4 := Y.2.1 4 _ rfl
  have f4 := Y.2.2 4 (by simp)
  go_wp2_with fail
  have Y := Y.set 4 (.int .i64 v4)
  have X := X.other (c := r + 1) (by omega) 4 (.int .i64 v4)
  have R := R.set (x := r + 1) (by omega) (by omega) 4 (.int .i64 v4)
  have d := d.setNew (b := r + 1) (by omega) 4 (.int .i64 v4)
  have Q1 := ownN_set (x := r + 1) Q1 (by omega) 4 (.int .i64 v4)
  simp only [List.set] at Y
  clear k4 f4
  generalize w4.setCell ⟨r + 1, 4, none⟩ (.int .i64 v4) = u4 at *
  have P1 : ∀ k, (Value.slice a1 Y1.length n1).ownBlock = some k → k < u4.heap.size := fun k q => (World.ownsRow.lt Q1 k q).2
  have hM0 := Y.1
  generalize hM5 : u4.heap.size = M5 at *
  refine (s5.out _ R).mono ?_
  rintro e w5 ⟨x5, Y5, rfl, Q5, o, R, z5⟩
  obtain ⟨a5, n5, rfl, -⟩ := ownN_row Q5
  have hs := Y.1
  have Q1 := ownN_off Q1 (by omega) o
  have X := X.only o (by omega)
  have Y := Y.only o (by omega)
  have d := d.trans o
  have hM9 : M5 ≤ w5.heap.size := Nat.le_trans (Nat.le_of_eq hM5.symm) o.2.2.2.1
  have hM : ∀ k, (Value.slice a1 Y1.length n1).ownBlock = some k → k < M5 := P1
  clear P1
  clear o
  have k5 := Y.2.1 5 _ rfl
  have f5 := Y.2.2 5 (by simp)
  have k0 := Y.2.1 0 _ rfl
  have k1 := Y.2.1 1 _ rfl
  have k2 := Y.2.1 2 _ rfl
  have k3 := Y.2.1 3 _ rfl
  have k4 := Y.2.1 4 _ rfl
  have h0 := X.2.1 0 _ rfl
  have g0 := X.2.2 0 (by simp)
  have h1 := X.2.1 1 _ rfl
  have g1 := X.2.2 1 (by simp)
  have h2 := X.2.1 2 _ rfl
  have g2 := X.2.2 2 (by simp)
  have h3 := X.2.1 3 _ rfl
  have g3 := X.2.2 3 (by simp)
  have h4 := X.2.1 4 _ rfl
  have g4 := X.2.2 4 (by simp)
  have h5 := X.2.1 5 _ rfl
  have g5 := X.2.2 5 (by simp)
  go_wp2_with fail
  refine bodyPost_ret (v := .agg #[.int .i64 v0, .slice a1 Y1.length n1, .int .i64 v2, .int .i64 v3, .int .i64 v4, .slice a5 Y5.length n5]) (by simp [results, Try.results110, go_sem, h0, h1, h2, h3, h4, h5]) rfl ⟨_, Y1, _, Y5, M5, rfl, ?_, ?_, by omega, by simpa using hM9, hM, ?_, ?_, z1, z5⟩
  · exact ownN_base (ownN_set (x := r) (ownN_set (x := r) (ownN_set (x := r) (ownN_set (x := r) (ownN_set (x := r) (ownN_set (x := r) (ownN_set (x := r + 1) Q1 (by omega) _ _) (by omega) _ _) (by omega) _ _) (by omega) _ _) (by omega) _ _) (by omega) _ _) (by omega) _ _) (by omega)
  · exact ownN_base (ownN_set (x := r) (ownN_set (x := r) (ownN_set (x := r) (ownN_set (x := r) (ownN_set (x := r) (ownN_set (x := r) (ownN_set (x := r + 1) Q5 (by omega) _ _) (by omega) _ _) (by omega) _ _) (by omega) _ _) (by omega) _ _) (by omega) _ _) (by omega) _ _) (by omega)
  · exact (Only.setNew (Only.setNew (Only.setNew (Only.setNew (Only.setNew (Only.setNew (Only.setNew d (b := r + 1) (by omega) _ _) (b := r) (by omega) _ _) (b := r) (by omega) _ _) (b := r) (by omega) _ _) (b := r) (by omega) _ _) (b := r) (by omega) _ _) (b := r) (by omega) _ _)
  · exact (Fr.set (Fr.set (Fr.set (Fr.set (Fr.set (Fr.set (Fr.set R (x := r + 1) (by omega) (by omega) _ _) (x := r) (by omega) (by omega) _ _) (x := r) (by omega) (by omega) _ _) (x := r) (by omega) (by omega) _ _) (x := r) (by omega) (by omega) _ _) (x := r) (by omega) (by omega) _ _) (x := r) (by omega) (by omega) _ _)
end Go.Proofs.Ytoeephmdklmpfaa

/- Reading updates: what the program's takeUpdate answers, from what its parts answer. -/
namespace Go.Proofs.Ytoeephmdklmpfaa
open Go.RowKit

theorem ownP_set {w : World} {base x : Nat} {v : Value} {L : List Pf} (h : OwnP base v L w) (hx : x < base) (i : Nat) (u : Value) : OwnP base v L (w.setCell ⟨x, i, none⟩ u) :=
  ownP_only h ((Only.refl x w).setCell i u) (by
    intro q
    have := (World.ownsRow.lt h x q).1
    omega)
theorem ownP_off {w w' : World} {base x : Nat} {v : Value} {L : List Pf} (h : OwnP base v L w) (hx : x < base) (o : Only x w w') : OwnP base v L w' :=
  ownP_only h o (by
    intro q
    have := (World.ownsRow.lt h x q).1
    omega)
theorem ownP_away {w : World} {base x : Nat} {v : Value} {L : List Pf} (h : OwnP base v L w) (hx : ∀ k, v.ownBlock = some k → k < x) (i : Nat) (u : Value) : OwnP base v L (w.setCell ⟨x, i, none⟩ u) :=
  ownP_only h ((Only.refl x w).setCell i u) (by
    intro q
    have := hx x q
    omega)
theorem Fr.fault {w : World} {b g : Nat} {L : List Int} {c : Int} (h : Fr w b g L c) (hg : g ≠ b) (k : Int) (hk : k ≠ 0) : Fr (w.setCell ⟨b, 1, none⟩ (.int .i64 k)) b g L k := by
  obtain ⟨L', ⟨off, cap, h1, h2, h3, h4⟩, hB, _⟩ := h
  exact ⟨L', ⟨off, cap, h1.set 1 _, h2, h3, h4.only ((Only.refl b w).setCell 1 _) hg⟩, hB, fun e => absurd e hk⟩
/-- Prefixes were read: L and c are left. -/
def PrefsF (b g : Nat) (V : List Pf) (L : List Int) (c : Int) (w : World) (e : Ending) (w' : World) : Prop :=
  ∃ v Y, e = .returned v ∧ OwnP w.heap.size v Y w' ∧ Only b w w' ∧ Fr w' b g L c ∧ Hid (c = 0 → Y = V)
/-- Four lists of their own, each behind the others. -/
def Own4 (base : Nat) (x0 : Value) (Y0 : List Pf) (x1 : Value) (Y1 : List Int) (x5 : Value) (Y5 : List Int) (x7 : Value) (Y7 : List Pf) (w : World) : Prop :=
  ∃ M1 M2 M3, OwnP base x0 Y0 w ∧ OwnN 3 .i64 M1 x1 Y1 w ∧ OwnN 3 .i64 M2 x5 Y5 w ∧ OwnP M3 x7 Y7 w ∧ base ≤ M1 ∧ M1 ≤ M2 ∧ M2 ≤ M3 ∧ (∀ k, x0.ownBlock = some k → k < M1) ∧ (∀ k, x1.ownBlock = some k → k < M2) ∧ (∀ k, x5.ownBlock = some k → k < M3)
/-- An update was read, where behind the first prefixes L0 and c0 are left, and at the end L7 and c7. -/
def UpdF (b g : Nat) (V0 : List Pf) (v0 : Int) (V1 : List Int) (v2 v3 v4 : Int) (V5 : List Int) (V7 : List Pf) (L0 L7 : List Int) (c0 c7 : Int) (w : World) (e : Ending) (w' : World) : Prop :=
  ∃ x0 Y0 a0 x1 Y1 a2 a3 a4 x5 Y5 x7 Y7 L cf, e = .returned (.agg #[x0, .int .i64 a0, x1, .int .i64 a2, .int .i64 a3, .int .i64 a4, x5, x7]) ∧ Own4 w.heap.size x0 Y0 x1 Y1 x5 Y5 x7 Y7 w' ∧ Only b w w' ∧ Fr w' b g L cf ∧ Hid (c0 ≠ 0 → cf = c0) ∧
    Hid (c0 = 0 → L0 = [] → cf = 0 ∧ Y0 = V0 ∧ a0 = 0 ∧ Y1 = [] ∧ a2 = 0 ∧ a3 = 0 ∧ a4 = 0 ∧ Y5 = [] ∧ Y7 = []) ∧
    Hid (c0 = 0 → L0 ≠ [] → (c7 ≠ 0 → cf = c7) ∧ (c7 = 0 → L7 ≠ [] → cf = 2) ∧ (c7 = 0 → L7 = [] → cf = 0 ∧ Y0 = V0 ∧ a0 = v0 ∧ Y1 = V1 ∧ a2 = v2 ∧ a3 = v3 ∧ a4 = v4 ∧ Y5 = V5 ∧ Y7 = V7))
set_option maxRecDepth 100000 in
set_option maxHeartbeats 6400000 in
theorem i_update (b g : Nat) (V0 : List Pf) (v0 v2 v3 v4 : Int) (V1 V5 : List Int) (V7 : List Pf) (L L0 L5 L7 : List Int) (c c0 c1 c5 c7 : Int) (w : World) (hg : g < b) (R : Fr w b g L c)
    (s0 : Hid (∀ w, Fr w b g L c → Calls Try.prog 109 #[.pointer (some ⟨b, 0, none⟩)] w (PrefsF b g V0 L0 c0 w)))
    (s1 : Hid (∀ w, Fr w b g L0 c0 → Calls Try.prog 110 #[.pointer (some ⟨b, 0, none⟩)] w (AttrF b g v0 V1 v2 v3 v4 V5 L5 c1 c5 w)))
    (s7 : Hid (∀ w, Fr w b g L5 c5 → Calls Try.prog 109 #[.pointer (some ⟨b, 0, none⟩)] w (PrefsF b g V7 L7 c7 w)))
    (hk : Hid (c0 ≠ 0 → c7 = c0)) (hz : Hid (c7 = 0 → c5 = 0 ∧ c1 = 0)) :
    Calls Try.prog 67 #[.pointer (some ⟨b, 0, none⟩)] w (UpdF b g V0 v0 V1 v2 v3 v4 V5 V7 L0 L7 c0 c7 w) := by
  have hlt := R.lt
  have X := Mut.new w #[.slice none 0 0, .int .i64 0, .slice none 0 0, .int .i64 0, .int .i64 0, .int .i64 0, .slice none 0 0, .slice none 0 0] 27
  have R := R.below (below_box (Below.refl _ _) : Below w.heap.size w (w.alloc (.cells #[.slice none 0 0, .int .i64 0, .slice none 0 0, .int .i64 0, .int .i64 0, .int .i64 0, .slice none 0 0, .slice none 0 0] 27)))
  have d : Only b w (w.alloc (.cells #[.slice none 0 0, .int .i64 0, .slice none 0 0, .int .i64 0, .int .i64 0, .int .i64 0, .slice none 0 0, .slice none 0 0] 27)) := (Only.refl b w).alloc _
  go_enter Try.func67, Try.ntmps67
  go_wp2_with fail
  have hu : (w.alloc (.cells #[.slice none 0 0, .int .i64 0, .slice none 0 0, .int .i64 0, .int .i64 0, .int .i64 0, .slice none 0 0, .slice none 0 0] 27)).heap.size = w.heap.size + 1 := by simp
  generalize w.alloc (.cells #[.slice none 0 0, .int .i64 0, .slice none 0 0, .int .i64 0, .int .i64 0, .int .i64 0, .slice none 0 0, .slice none 0 0] 27) = u at *
  generalize hr : w.heap.size = r at *
  have hr2 : w.heap.size ≤ r := Nat.le_of_eq hr
  have hr3 : r ≤ w.heap.size := Nat.le_of_eq hr.symm
  clear hr
  refine (s0.out _ R).mono ?_
  rintro e w1 ⟨x0, Y0, rfl, Q0, o, R, z0⟩
  obtain ⟨p0, n0, rfl, -⟩ := ownP_row Q0
  rw [hu] at Q0
  clear hu s0
  have X := X.only o (by omega)
  have d := d.trans o
  clear o
  have P0 : ∀ k, (Value.slice p0 Y0.length n0).ownBlock = some k → k < w1.heap.size := fun k q => (World.ownsRow.lt Q0 k q).2
  have hX := X.1
  have X1 := X
  have R1 := R
  have d1 := d
  have Q01 := Q0
  have Y := Mut.new w1 #[.slice p0 Y0.length n0, .int .i64 0, .slice none 0 0, .int .i64 0, .int .i64 0, .int .i64 0, .slice none 0 0, .slice none 0 0] 27
  have X := X.alloc (.cells #[.slice p0 Y0.length n0, .int .i64 0, .slice none 0 0, .int .i64 0, .int .i64 0, .int .i64 0, .slice none 0 0, .slice none 0 0] 27)
  have R := R.below (below_box (Below.refl _ _) : Below w1.heap.size w1 (w1.alloc (.cells #[.slice p0 Y0.length n0, .int .i64 0, .slice none 0 0, .int .i64 0, .int .i64 0, .int .i64 0, .slice none 0 0, .slice none 0 0] 27)))
  have Q0 := ownP_below Q0 (below_box (Below.refl _ _) : Below w1.heap.size w1 (w1.alloc (.cells #[.slice p0 Y0.length n0, .int .i64 0, .slice none 0 0, .int .i64 0, .int .i64 0, .int .i64 0, .slice none 0 0, .slice none 0 0] 27)))
  have d : Only b w (w1.alloc (.cells #[.slice p0 Y0.length n0, .int .i64 0, .slice none 0 0, .int .i64 0, .int .i64 0, .int .i64 0, .slice none 0 0, .slice none 0 0] 27)) := d.alloc _
  have hv : w1.heap.size + 1 ≤ (w1.alloc (.cells #[.slice p0 Y0.length n0, .int .i64 0, .slice none 0 0, .int .i64 0, .int .i64 0, .int .i64 0, .slice none 0 0, .slice none 0 0] 27)).heap.size := by simp
  obtain ⟨L', ⟨f0, cp, Mb, Fr3, Fr4⟩, hB, hL⟩ := id R
  have hLh := hide hL
  clear hL Fr3 Fr4 hB
  have b0 := Mb.2.1 0 _ rfl
  have b1 := Mb.2.1 1 _ rfl

  cases L' with
  | nil =>
    simp only [List.length_nil] at b0
    have k0 := Y.2.1 0 _ rfl
    have k1 := Y.2.1 1 _ rfl
    have k2 := Y.2.1 2 _ rfl
    have k3 := Y.2.1 3 _ rfl
    have k4 := Y.2.1 4 _ rfl
    have k5 := Y.2.1 5 _ rfl
    have k6 := Y.2.1 6 _ rfl
    have k7 := Y.2.1 7 _ rfl
    have h0 := X1.2.1 0 _ rfl
    have g0 := X1.2.2 0 (by simp)
    have h1 := X1.2.1 1 _ rfl
    have g1 := X1.2.2 1 (by simp)
    have h2 := X1.2.1 2 _ rfl
    have g2 := X1.2.2 2 (by simp)
    have h3 := X1.2.1 3 _ rfl
    have g3 := X1.2.2 3 (by simp)
    have h4 := X1.2.1 4 _ rfl
    have g4 := X1.2.2 4 (by simp)
    have h5 := X1.2.1 5 _ rfl
    have g5 := X1.2.2 5 (by simp)
    have h6 := X1.2.1 6 _ rfl
    have g6 := X1.2.2 6 (by simp)
    have h7 := X1.2.1 7 _ rfl
    have g7 := X1.2.2 7 (by simp)
    by_cases hc : c0 = 0
    · subst hc
      go_wp2_with fail
      have XF := ((((((((X1.set 0 (.slice p0 Y0.length n0)).set 1 (.int .i64 0)).set 2 (.slice none 0 0)).set 3 (.int .i64 0)).set 4 (.int .i64 0)).set 5 (.int .i64 0)).set 6 (.slice none 0 0)).set 7 (.slice none 0 0)).alloc (.cells #[.slice p0 Y0.length n0, .int .i64 0, .slice none 0 0, .int .i64 0, .int .i64 0, .int .i64 0, .slice none 0 0, .slice none 0 0] 27)
      simp only [List.set] at XF
      have e0 := XF.2.1 0 _ rfl
      have e1 := XF.2.1 1 _ rfl
      have e2 := XF.2.1 2 _ rfl
      have e3 := XF.2.1 3 _ rfl
      have e4 := XF.2.1 4 _ rfl
      have e5 := XF.2.1 5 _ rfl
      have e6 := XF.2.1 6 _ rfl
      have e7 := XF.2.1 7 _ rfl
      refine bodyPost_ret (v := .agg #[.slice p0 Y0.length n0, .int .i64 0, .slice none 0 0, .int .i64 0, .int .i64 0, .int .i64 0, .slice none 0 0, .slice none 0 0]) (by simp [results, Try.results67, go_sem, e0, e1, e2, e3, e4, e5, e6, e7]) rfl ?_
      exact ⟨_, Y0, 0, _, [], 0, 0, 0, _, [], _, [], L0, 0, rfl, ⟨w1.heap.size, w1.heap.size, w1.heap.size, ownP_base (ownP_below (ownP_set (x := r) (ownP_set (x := r) (ownP_set (x := r) (ownP_set (x := r) (ownP_set (x := r) (ownP_set (x := r) (ownP_set (x := r) (ownP_set (x := r) Q01 (by omega) _ _) (by omega) _ _) (by omega) _ _) (by omega) _ _) (by omega) _ _) (by omega) _ _) (by omega) _ _) (by omega) _ _) (below_box (Below.refl _ _))) (by omega), ownN_nil _ _ _ _, ownN_nil _ _ _ _, ownP_nil _ _, by omega, by omega, by omega, P0, by simp [Value.ownBlock], by simp [Value.ownBlock]⟩, (Only.alloc (Only.setNew (Only.setNew (Only.setNew (Only.setNew (Only.setNew (Only.setNew (Only.setNew (Only.setNew d1 (b := r) (by omega) _ _) (b := r) (by omega) _ _) (b := r) (by omega) _ _) (b := r) (by omega) _ _) (b := r) (by omega) _ _) (b := r) (by omega) _ _) (b := r) (by omega) _ _) (b := r) (by omega) _ _) _), (Fr.below (Fr.set (Fr.set (Fr.set (Fr.set (Fr.set (Fr.set (Fr.set (Fr.set R1 (x := r) (by omega) (by omega) _ _) (x := r) (by omega) (by omega) _ _) (x := r) (by omega) (by omega) _ _) (x := r) (by omega) (by omega) _ _) (x := r) (by omega) (by omega) _ _) (x := r) (by omega) (by omega) _ _) (x := r) (by omega) (by omega) _ _) (x := r) (by omega) (by omega) _ _) (below_box (Below.refl _ _))), fun h => absurd rfl h, fun _ _ => ⟨rfl, z0.out (by simp), rfl, rfl, rfl, rfl, rfl, rfl, rfl⟩, fun _ h => absurd (hLh.out (by simp)).symm h⟩
    · have hc2 : (c0 == 0) = false := by simpa using hc
      go_wp2_with fail
      have XF := ((((((((X1.set 0 (.slice p0 Y0.length n0)).set 1 (.int .i64 0)).set 2 (.slice none 0 0)).set 3 (.int .i64 0)).set 4 (.int .i64 0)).set 5 (.int .i64 0)).set 6 (.slice none 0 0)).set 7 (.slice none 0 0)).alloc (.cells #[.slice p0 Y0.length n0, .int .i64 0, .slice none 0 0, .int .i64 0, .int .i64 0, .int .i64 0, .slice none 0 0, .slice none 0 0] 27)
      simp only [List.set] at XF
      have e0 := XF.2.1 0 _ rfl
      have e1 := XF.2.1 1 _ rfl
      have e2 := XF.2.1 2 _ rfl
      have e3 := XF.2.1 3 _ rfl
      have e4 := XF.2.1 4 _ rfl
      have e5 := XF.2.1 5 _ rfl
      have e6 := XF.2.1 6 _ rfl
      have e7 := XF.2.1 7 _ rfl
      refine bodyPost_ret (v := .agg #[.slice p0 Y0.length n0, .int .i64 0, .slice none 0 0, .int .i64 0, .int .i64 0, .int .i64 0, .slice none 0 0, .slice none 0 0]) (by simp [results, Try.results67, go_sem, e0, e1, e2, e3, e4, e5, e6, e7]) rfl ?_
      exact ⟨_, Y0, 0, _, [], 0, 0, 0, _, [], _, [], L0, c0, rfl, ⟨w1.heap.size, w1.heap.size, w1.heap.size, ownP_base (ownP_below (ownP_set (x := r) (ownP_set (x := r) (ownP_set (x := r) (ownP_set (x := r) (ownP_set (x := r) (ownP_set (x := r) (ownP_set (x := r) (ownP_set (x := r) Q01 (by omega) _ _) (by omega) _ _) (by omega) _ _) (by omega) _ _) (by omega) _ _) (by omega) _ _) (by omega) _ _) (by omega) _ _) (below_box (Below.refl _ _))) (by omega), ownN_nil _ _ _ _, ownN_nil _ _ _ _, ownP_nil _ _, by omega, by omega, by omega, P0, by simp [Value.ownBlock], by simp [Value.ownBlock]⟩, (Only.alloc (Only.setNew (Only.setNew (Only.setNew (Only.setNew (Only.setNew (Only.setNew (Only.setNew (Only.setNew d1 (b := r) (by omega) _ _) (b := r) (by omega) _ _) (b := r) (by omega) _ _) (b := r) (by omega) _ _) (b := r) (by omega) _ _) (b := r) (by omega) _ _) (b := r) (by omega) _ _) (b := r) (by omega) _ _) _), (Fr.below (Fr.set (Fr.set (Fr.set (Fr.set (Fr.set (Fr.set (Fr.set (Fr.set R1 (x := r) (by omega) (by omega) _ _) (x := r) (by omega) (by omega) _ _) (x := r) (by omega) (by omega) _ _) (x := r) (by omega) (by omega) _ _) (x := r) (by omega) (by omega) _ _) (x := r) (by omega) (by omega) _ _) (x := r) (by omega) (by omega) _ _) (x := r) (by omega) (by omega) _ _) (below_box (Below.refl _ _))), fun _ => rfl, fun h => absurd h hc, fun h => absurd h hc⟩
  | cons l0 LL =>
    have hpos : (0 : Int) < ((LL.length : Int) + 1) := by omega
    simp only [List.length_cons] at b0
    have hL0 : Hid (c0 = 0 → L0 ≠ []) := fun h e => by
      have := hLh.out h
      rw [e] at this
      cases this
    go_wp2_with fail
    generalize w1.alloc (.cells #[.slice p0 Y0.length n0, .int .i64 0, .slice none 0 0, .int .i64 0, .int .i64 0, .int .i64 0, .slice none 0 0, .slice none 0 0] 27) = u1 at *
    generalize hA : w1.heap.size = A at *
    clear b0 b1 Mb hpos hLh
    refine (s1.out _ R).mono ?_
    rintro e w2 ⟨x1, Y1, x5, Y5, M5, rfl, Q1, Q5, hM1, hM9, hM2, o, R, z1, z5⟩
    obtain ⟨p1, n1, rfl, -⟩ := ownN_row Q1
    obtain ⟨p5, n5, rfl, -⟩ := ownN_row Q5
    clear s1
    have X := X.only o (by omega)
    have Y := Y.only o (by omega)
    have d := d.trans o
    have Q0 := ownP_off Q0 (by omega) o
    clear o
    have k1 := Y.2.1 1 _ rfl
    have f1 := Y.2.2 1 (by simp)
    have k2 := Y.2.1 2 _ rfl
    have f2 := Y.2.2 2 (by simp)
    have k3 := Y.2.1 3 _ rfl
    have f3 := Y.2.2 3 (by simp)
    have k4 := Y.2.1 4 _ rfl
    have f4 := Y.2.2 4 (by simp)
    have k5 := Y.2.1 5 _ rfl
    have f5 := Y.2.2 5 (by simp)
    have k6 := Y.2.1 6 _ rfl
    have f6 := Y.2.2 6 (by simp)
    go_wp2_with fail
    have Y := Y.set 1 (.int .i64 v0)
    have X := X.other (c := A) (by omega) 1 (.int .i64 v0)
    have R := R.set (x := A) (by omega) (by omega) 1 (.int .i64 v0)
    have d := d.setNew (b := A) (by omega) 1 (.int .i64 v0)
    have Q0 := ownP_away (x := A) Q0 P0 1 (.int .i64 v0)
    have Q1 := ownN_set (x := A) Q1 (by omega) 1 (.int .i64 v0)
    have Q5 := ownN_set (x := A) Q5 (by omega) 1 (.int .i64 v0)
    have Y := Y.set 2 (.slice p1 Y1.length n1)
    have X := X.other (c := A) (by omega) 2 (.slice p1 Y1.length n1)
    have R := R.set (x := A) (by omega) (by omega) 2 (.slice p1 Y1.length n1)
    have d := d.setNew (b := A) (by omega) 2 (.slice p1 Y1.length n1)
    have Q0 := ownP_away (x := A) Q0 P0 2 (.slice p1 Y1.length n1)
    have Q1 := ownN_set (x := A) Q1 (by omega) 2 (.slice p1 Y1.length n1)
    have Q5 := ownN_set (x := A) Q5 (by omega) 2 (.slice p1 Y1.length n1)
    have Y := Y.set 3 (.int .i64 v2)
    have X := X.other (c := A) (by omega) 3 (.int .i64 v2)
    have R := R.set (x := A) (by omega) (by omega) 3 (.int .i64 v2)
    have d := d.setNew (b := A) (by omega) 3 (.int .i64 v2)
    have Q0 := ownP_away (x := A) Q0 P0 3 (.int .i64 v2)
    have Q1 := ownN_set (x := A) Q1 (by omega) 3 (.int .i64 v2)
    have Q5 := ownN_set (x := A) Q5 (by omega) 3 (.int .i64 v2)
    have Y := Y.set 4 (.int .i64 v3)
    have X := X.other (c := A) (by omega) 4 (.int .i64 v3)
    have R := R.set (x := A) (by omega) (by omega) 4 (.int .i64 v3)
    have d := d.setNew (b := A) (by omega) 4 (.int .i64 v3)
    have Q0 := ownP_away (x := A) Q0 P0 4 (.int .i64 v3)
    have Q1 := ownN_set (x := A) Q1 (by omega) 4 (.int .i64 v3)
    have Q5 := ownN_set (x := A) Q5 (by omega) 4 (.int .i64 v3)
    have Y := Y.set 5 (.int .i64 v4)
    have X := X.other (c := A) (by omega) 5 (.int .i64 v4)
    have R := R.set (x := A) (by omega) (by omega) 5 (.int .i64 v4)
    have d := d.setNew (b := A) (by omega) 5 (.int .i64 v4)
    have Q0 := ownP_away (x := A) Q0 P0 5 (.int .i64 v4)
    have Q1 := ownN_set (x := A) Q1 (by omega) 5 (.int .i64 v4)
    have Q5 := ownN_set (x := A) Q5 (by omega) 5 (.int .i64 v4)
    have Y := Y.set 6 (.slice p5 Y5.length n5)
    have X := X.other (c := A) (by omega) 6 (.slice p5 Y5.length n5)
    have R := R.set (x := A) (by omega) (by omega) 6 (.slice p5 Y5.length n5)
    have d := d.setNew (b := A) (by omega) 6 (.slice p5 Y5.length n5)
    have Q0 := ownP_away (x := A) Q0 P0 6 (.slice p5 Y5.length n5)
    have Q1 := ownN_set (x := A) Q1 (by omega) 6 (.slice p5 Y5.length n5)
    have Q5 := ownN_set (x := A) Q5 (by omega) 6 (.slice p5 Y5.length n5)
    simp only [List.set] at Y
    clear k1 f1 k2 f2 k3 f3 k4 f4 k5 f5 k6 f6
    have hM3 : M5 ≤ ((((((w2.setCell ⟨A, 1, none⟩ (.int .i64 v0)).setCell ⟨A, 2, none⟩ (.slice p1 Y1.length n1)).setCell ⟨A, 3, none⟩ (.int .i64 v2)).setCell ⟨A, 4, none⟩ (.int .i64 v3)).setCell ⟨A, 5, none⟩ (.int .i64 v4)).setCell ⟨A, 6, none⟩ (.slice p5 Y5.length n5)).heap.size := by simpa using hM9
    generalize ((((((w2.setCell ⟨A, 1, none⟩ (.int .i64 v0)).setCell ⟨A, 2, none⟩ (.slice p1 Y1.length n1)).setCell ⟨A, 3, none⟩ (.int .i64 v2)).setCell ⟨A, 4, none⟩ (.int .i64 v3)).setCell ⟨A, 5, none⟩ (.int .i64 v4)).setCell ⟨A, 6, none⟩ (.slice p5 Y5.length n5)) = u3 at *
    have P5 : ∀ k, (Value.slice p5 Y5.length n5).ownBlock = some k → k < u3.heap.size := fun k q => (World.ownsRow.lt Q5 k q).2
    have hY3 := Y.1
    refine (s7.out _ R).mono ?_
    rintro e w4 ⟨x7, Y7, rfl, Q7, o, R, z7⟩
    obtain ⟨p7, n7, rfl, -⟩ := ownP_row Q7
    clear s7
    generalize hM7 : u3.heap.size = M7 at *
    have X := X.only o (by omega)
    have Y := Y.only o (by omega)
    have d := d.trans o
    have Q0 := ownP_off Q0 (by omega) o
    have Q1 := ownN_off Q1 (by omega) o
    have Q5 := ownN_off Q5 (by omega) o
    clear o
    obtain ⟨L', ⟨f1, cq, Mb, Fr3, Fr4⟩, hB, hL⟩ := id R
    have hLh := hide hL
    clear hL Fr3 Fr4 hB
    have b0 := Mb.2.1 0 _ rfl
    have b1 := Mb.2.1 1 _ rfl
    have j1 := Mb.2.2 1 (by simp)
    have hne : b ≠ A := by omega
    have hne2 : A ≠ b := by omega
    have hne3 : A ≠ r := by omega
    have hne4 : r ≠ A := by omega
    have hne5 : r ≠ b := by omega
    have hne6 : b ≠ r := by omega
    have k0 := Y.2.1 0 _ rfl
    have k1 := Y.2.1 1 _ rfl
    have k2 := Y.2.1 2 _ rfl
    have k3 := Y.2.1 3 _ rfl
    have k4 := Y.2.1 4 _ rfl
    have k5 := Y.2.1 5 _ rfl
    have k6 := Y.2.1 6 _ rfl
    have k7 := Y.2.1 7 _ rfl
    have f7 := Y.2.2 7 (by simp)
    have h0 := X.2.1 0 _ rfl
    have g0 := X.2.2 0 (by simp)
    have h1 := X.2.1 1 _ rfl
    have g1 := X.2.2 1 (by simp)
    have h2 := X.2.1 2 _ rfl
    have g2 := X.2.2 2 (by simp)
    have h3 := X.2.1 3 _ rfl
    have g3 := X.2.2 3 (by simp)
    have h4 := X.2.1 4 _ rfl
    have g4 := X.2.2 4 (by simp)
    have h5 := X.2.1 5 _ rfl
    have g5 := X.2.2 5 (by simp)
    have h6 := X.2.1 6 _ rfl
    have g6 := X.2.2 6 (by simp)
    have h7 := X.2.1 7 _ rfl
    have g7 := X.2.2 7 (by simp)
    by_cases hc : c7 = 0
    · subst hc
      cases L' with
      | nil =>
        simp only [List.length_nil] at b0
        go_wp2_with fail
        refine bodyPost_ret (v := .agg #[.slice p0 Y0.length n0, .int .i64 v0, .slice p1 Y1.length n1, .int .i64 v2, .int .i64 v3, .int .i64 v4, .slice p5 Y5.length n5, .slice p7 Y7.length n7]) (by simp [results, Try.results67, go_sem, h0, h1, h2, h3, h4, h5, h6, h7]) rfl ?_
        refine ⟨_, Y0, v0, _, Y1, v2, v3, v4, _, Y5, _, Y7, L7, 0, rfl, ⟨_, M5, M7, ownP_base (ownP_set (x := r) (ownP_set (x := r) (ownP_set (x := r) (ownP_set (x := r) (ownP_set (x := r) (ownP_set (x := r) (ownP_set (x := r) (ownP_set (x := r) (ownP_away (x := A) Q0 P0 _ _) (by omega) _ _) (by omega) _ _) (by omega) _ _) (by omega) _ _) (by omega) _ _) (by omega) _ _) (by omega) _ _) (by omega) _ _) (by omega), (ownN_set (x := r) (ownN_set (x := r) (ownN_set (x := r) (ownN_set (x := r) (ownN_set (x := r) (ownN_set (x := r) (ownN_set (x := r) (ownN_set (x := r) (ownN_set (x := A) Q1 (by omega) _ _) (by omega) _ _) (by omega) _ _) (by omega) _ _) (by omega) _ _) (by omega) _ _) (by omega) _ _) (by omega) _ _) (by omega) _ _), (ownN_set (x := r) (ownN_set (x := r) (ownN_set (x := r) (ownN_set (x := r) (ownN_set (x := r) (ownN_set (x := r) (ownN_set (x := r) (ownN_set (x := r) (ownN_set (x := A) Q5 (by omega) _ _) (by omega) _ _) (by omega) _ _) (by omega) _ _) (by omega) _ _) (by omega) _ _) (by omega) _ _) (by omega) _ _) (by omega) _ _), (ownP_set (x := r) (ownP_set (x := r) (ownP_set (x := r) (ownP_set (x := r) (ownP_set (x := r) (ownP_set (x := r) (ownP_set (x := r) (ownP_set (x := r) (ownP_set (x := A) Q7 (by omega) _ _) (by omega) _ _) (by omega) _ _) (by omega) _ _) (by omega) _ _) (by omega) _ _) (by omega) _ _) (by omega) _ _) (by omega) _ _), by omega, hM1, by omega, fun k q => by have := P0 k q; omega, hM2, P5⟩, (Only.setNew (Only.setNew (Only.setNew (Only.setNew (Only.setNew (Only.setNew (Only.setNew (Only.setNew (Only.setNew d (b := A) (by omega) _ _) (b := r) (by omega) _ _) (b := r) (by omega) _ _) (b := r) (by omega) _ _) (b := r) (by omega) _ _) (b := r) (by omega) _ _) (b := r) (by omega) _ _) (b := r) (by omega) _ _) (b := r) (by omega) _ _), (Fr.set (Fr.set (Fr.set (Fr.set (Fr.set (Fr.set (Fr.set (Fr.set (Fr.set R (x := A) (by omega) (by omega) _ _) (x := r) (by omega) (by omega) _ _) (x := r) (by omega) (by omega) _ _) (x := r) (by omega) (by omega) _ _) (x := r) (by omega) (by omega) _ _) (x := r) (by omega) (by omega) _ _) (x := r) (by omega) (by omega) _ _) (x := r) (by omega) (by omega) _ _) (x := r) (by omega) (by omega) _ _), hk, fun h e => absurd e (hL0.out h), fun h _ => ⟨fun q => absurd rfl q, fun _ q => absurd (hLh.out (by simp)).symm q, fun _ _ => ⟨rfl, z0.out h, rfl, z1.out (hz.out (by simp)).2, rfl, rfl, rfl, z5.out (hz.out (by simp)).1, z7.out (by simp)⟩⟩⟩
      | cons l1 LK =>
        have hpos : (0 : Int) < ((LK.length : Int) + 1) := by omega
        simp only [List.length_cons] at b0
        go_wp2_with fail
        refine bodyPost_ret (v := .agg #[.slice p0 Y0.length n0, .int .i64 v0, .slice p1 Y1.length n1, .int .i64 v2, .int .i64 v3, .int .i64 v4, .slice p5 Y5.length n5, .slice p7 Y7.length n7]) (by simp [results, Try.results67, go_sem, h0, h1, h2, h3, h4, h5, h6, h7]) rfl ?_
        refine ⟨_, Y0, v0, _, Y1, v2, v3, v4, _, Y5, _, Y7, L7, 2, rfl, ⟨_, M5, M7, ownP_base (ownP_set (x := r) (ownP_set (x := r) (ownP_set (x := r) (ownP_set (x := r) (ownP_set (x := r) (ownP_set (x := r) (ownP_set (x := r) (ownP_set (x := r) (ownP_set (x := b) (ownP_away (x := A) Q0 P0 _ _) (by omega) _ _) (by omega) _ _) (by omega) _ _) (by omega) _ _) (by omega) _ _) (by omega) _ _) (by omega) _ _) (by omega) _ _) (by omega) _ _) (by omega), (ownN_set (x := r) (ownN_set (x := r) (ownN_set (x := r) (ownN_set (x := r) (ownN_set (x := r) (ownN_set (x := r) (ownN_set (x := r) (ownN_set (x := r) (ownN_set (x := b) (ownN_set (x := A) Q1 (by omega) _ _) (by omega) _ _) (by omega) _ _) (by omega) _ _) (by omega) _ _) (by omega) _ _) (by omega) _ _) (by omega) _ _) (by omega) _ _) (by omega) _ _), (ownN_set (x := r) (ownN_set (x := r) (ownN_set (x := r) (ownN_set (x := r) (ownN_set (x := r) (ownN_set (x := r) (ownN_set (x := r) (ownN_set (x := r) (ownN_set (x := b) (ownN_set (x := A) Q5 (by omega) _ _) (by omega) _ _) (by omega) _ _) (by omega) _ _) (by omega) _ _) (by omega) _ _) (by omega) _ _) (by omega) _ _) (by omega) _ _) (by omega) _ _), (ownP_set (x := r) (ownP_set (x := r) (ownP_set (x := r) (ownP_set (x := r) (ownP_set (x := r) (ownP_set (x := r) (ownP_set (x := r) (ownP_set (x := r) (ownP_set (x := b) (ownP_set (x := A) Q7 (by omega) _ _) (by omega) _ _) (by omega) _ _) (by omega) _ _) (by omega) _ _) (by omega) _ _) (by omega) _ _) (by omega) _ _) (by omega) _ _) (by omega) _ _), by omega, hM1, by omega, fun k q => by have := P0 k q; omega, hM2, P5⟩, (Only.setNew (Only.setNew (Only.setNew (Only.setNew (Only.setNew (Only.setNew (Only.setNew (Only.setNew (Only.setCell (Only.setNew d (b := A) (by omega) _ _) _ _) (b := r) (by omega) _ _) (b := r) (by omega) _ _) (b := r) (by omega) _ _) (b := r) (by omega) _ _) (b := r) (by omega) _ _) (b := r) (by omega) _ _) (b := r) (by omega) _ _) (b := r) (by omega) _ _), (Fr.set (Fr.set (Fr.set (Fr.set (Fr.set (Fr.set (Fr.set (Fr.set (Fr.fault (Fr.set R (x := A) (by omega) (by omega) _ _) (by omega) 2 (by decide)) (x := r) (by omega) (by omega) _ _) (x := r) (by omega) (by omega) _ _) (x := r) (by omega) (by omega) _ _) (x := r) (by omega) (by omega) _ _) (x := r) (by omega) (by omega) _ _) (x := r) (by omega) (by omega) _ _) (x := r) (by omega) (by omega) _ _) (x := r) (by omega) (by omega) _ _), fun h => absurd (hk.out h).symm h, fun h e => absurd e (hL0.out h), fun h _ => ⟨fun q => absurd rfl q, fun _ _ => rfl, fun _ q => absurd (hLh.out (by simp)) (by rw [q]; simp)⟩⟩
    · have hc2 : (c7 == 0) = false := by simpa using hc
      go_wp2_with fail
      refine bodyPost_ret (v := .agg #[.slice p0 Y0.length n0, .int .i64 v0, .slice p1 Y1.length n1, .int .i64 v2, .int .i64 v3, .int .i64 v4, .slice p5 Y5.length n5, .slice p7 Y7.length n7]) (by simp [results, Try.results67, go_sem, h0, h1, h2, h3, h4, h5, h6, h7]) rfl ?_
      refine ⟨_, Y0, v0, _, Y1, v2, v3, v4, _, Y5, _, Y7, L7, c7, rfl, ⟨_, M5, M7, ownP_base (ownP_set (x := r) (ownP_set (x := r) (ownP_set (x := r) (ownP_set (x := r) (ownP_set (x := r) (ownP_set (x := r) (ownP_set (x := r) (ownP_set (x := r) (ownP_away (x := A) Q0 P0 _ _) (by omega) _ _) (by omega) _ _) (by omega) _ _) (by omega) _ _) (by omega) _ _) (by omega) _ _) (by omega) _ _) (by omega) _ _) (by omega), (ownN_set (x := r) (ownN_set (x := r) (ownN_set (x := r) (ownN_set (x := r) (ownN_set (x := r) (ownN_set (x := r) (ownN_set (x := r) (ownN_set (x := r) (ownN_set (x := A) Q1 (by omega) _ _) (by omega) _ _) (by omega) _ _) (by omega) _ _) (by omega) _ _) (by omega) _ _) (by omega) _ _) (by omega) _ _) (by omega) _ _), (ownN_set (x := r) (ownN_set (x := r) (ownN_set (x := r) (ownN_set (x := r) (ownN_set (x := r) (ownN_set (x := r) (ownN_set (x := r) (ownN_set (x := r) (ownN_set (x := A) Q5 (by omega) _ _) (by omega) _ _) (by omega) _ _) (by omega) _ _) (by omega) _ _) (by omega) _ _) (by omega) _ _) (by omega) _ _) (by omega) _ _), (ownP_set (x := r) (ownP_set (x := r) (ownP_set (x := r) (ownP_set (x := r) (ownP_set (x := r) (ownP_set (x := r) (ownP_set (x := r) (ownP_set (x := r) (ownP_set (x := A) Q7 (by omega) _ _) (by omega) _ _) (by omega) _ _) (by omega) _ _) (by omega) _ _) (by omega) _ _) (by omega) _ _) (by omega) _ _) (by omega) _ _), by omega, hM1, by omega, fun k q => by have := P0 k q; omega, hM2, P5⟩, (Only.setNew (Only.setNew (Only.setNew (Only.setNew (Only.setNew (Only.setNew (Only.setNew (Only.setNew (Only.setNew d (b := A) (by omega) _ _) (b := r) (by omega) _ _) (b := r) (by omega) _ _) (b := r) (by omega) _ _) (b := r) (by omega) _ _) (b := r) (by omega) _ _) (b := r) (by omega) _ _) (b := r) (by omega) _ _) (b := r) (by omega) _ _), (Fr.set (Fr.set (Fr.set (Fr.set (Fr.set (Fr.set (Fr.set (Fr.set (Fr.set R (x := A) (by omega) (by omega) _ _) (x := r) (by omega) (by omega) _ _) (x := r) (by omega) (by omega) _ _) (x := r) (by omega) (by omega) _ _) (x := r) (by omega) (by omega) _ _) (x := r) (by omega) (by omega) _ _) (x := r) (by omega) (by omega) _ _) (x := r) (by omega) (by omega) _ _) (x := r) (by omega) (by omega) _ _), hk, fun h e => absurd e (hL0.out h), fun h _ => ⟨fun _ => rfl, fun q => absurd q hc, fun q => absurd q hc⟩⟩
end Go.Proofs.Ytoeephmdklmpfaa

namespace Go.Proofs.Ytoeephmdklmpfaa
open Go.RowKit

theorem i_numF (b g m : Nat) (s : Lc) (hg : g < b) (hm : m ≤ 4) (w : World) (R : Fr w b g s.1 s.2) :
    Calls Try.prog 143 #[.pointer (some ⟨b, 0, none⟩), .int .i64 m] w (NumF b g (vN m s.1 s.2) (sN m s).1 (sN m s).2 w) :=
  i_num b g s.1 s.2 m w (by omega) hm R
theorem i_numsF (b g m : Nat) (s : Lc) (hg : g < b) (hm : m ≤ 4) (hB : Bl s.1) (w : World) (R : Fr w b g s.1 s.2) :
    Calls Try.prog 145 #[.pointer (some ⟨b, 0, none⟩), .int .i64 m] w (NumsF b g (sMv m s) (sM m s).1 (sM m s).2 w) :=
  i_nums b g s.1 s.2 m w hg hm (vN1_bd hB).1 (vN1_bd hB).2 R
theorem i_prefsF (b g : Nat) (s : Lc) (hg : g < b) (hB : Bl s.1) (w : World) (R : Fr w b g s.1 s.2) :
    Calls Try.prog 109 #[.pointer (some ⟨b, 0, none⟩)] w (PrefsF b g (sPv s) (sP s).1 (sP s).2 w) :=
  i_prefs b g s.1 s.2 w hg (vN1_bd hB).1 (vN1_bd hB).2 R
theorem i_attrsF (b g : Nat) (s : Lc) (hg : g < b) (hB : Bl s.1) (w : World) (R : Fr w b g s.1 s.2) :
    Calls Try.prog 110 #[.pointer (some ⟨b, 0, none⟩)] w (AttrF b g (vN 1 s.1 s.2) (sMv 2 (sA0 s)) (vN 4 (sA1 s).1 (sA1 s).2) (vN 3 (sA2 s).1 (sA2 s).2) (vN 3 (sA3 s).1 (sA3 s).2) (sMv 3 (sA4 s)) (sA5 s).1 (sA1 s).2 (sA5 s).2 w) :=
  i_attrs b g _ _ _ _ _ _ s.1 (sA0 s).1 (sA1 s).1 (sA2 s).1 (sA3 s).1 (sA4 s).1 (sA5 s).1 s.2 (sA0 s).2 (sA1 s).2 (sA2 s).2 (sA3 s).2 (sA4 s).2 (sA5 s).2 w hg R
    (hide fun w R => i_numF b g 1 s hg (by decide) w R)
    (hide fun w R => i_numsF b g 2 (sA0 s) hg (by decide) (sA0_bl hB) w R)
    (hide fun w R => i_numF b g 4 (sA1 s) hg (by decide) w R)
    (hide fun w R => i_numF b g 3 (sA2 s) hg (by decide) w R)
    (hide fun w R => i_numF b g 3 (sA3 s) hg (by decide) w R)
    (hide fun w R => i_numsF b g 3 (sA4 s) hg (by decide) (sA4_bl hB) w R)
/-- takeUpdate at bytes L: t is what is left behind the first prefixes. -/
theorem i_updateF (b g : Nat) (s : Lc) (hg : g < b) (hB : Bl s.1) (w : World) (R : Fr w b g s.1 s.2) :
    Calls Try.prog 67 #[.pointer (some ⟨b, 0, none⟩)] w (UpdF b g (sPv s) (vN 1 (sP s).1 (sP s).2) (sMv 2 (sA0 (sP s))) (vN 4 (sA1 (sP s)).1 (sA1 (sP s)).2) (vN 3 (sA2 (sP s)).1 (sA2 (sP s)).2) (vN 3 (sA3 (sP s)).1 (sA3 (sP s)).2) (sMv 3 (sA4 (sP s))) (sPv (sA5 (sP s))) (sP s).1 (sP (sA5 (sP s))).1 (sP s).2 (sP (sA5 (sP s))).2 w) :=
  i_update b g _ _ _ _ _ _ _ _ s.1 (sP s).1 (sA5 (sP s)).1 (sP (sA5 (sP s))).1 s.2 (sP s).2 (sA1 (sP s)).2 (sA5 (sP s)).2 (sP (sA5 (sP s))).2 w hg R
    (hide fun w R => i_prefsF b g s hg hB w R)
    (hide fun w R => i_attrsF b g (sP s) hg (sP_bl hB) w R)
    (hide fun w R => i_prefsF b g (sA5 (sP s)) hg (sA5_bl (sP_bl hB)) w R)
    (hide fun h => sU_keep h) (hide fun h => sU_zero h)
end Go.Proofs.Ytoeephmdklmpfaa
