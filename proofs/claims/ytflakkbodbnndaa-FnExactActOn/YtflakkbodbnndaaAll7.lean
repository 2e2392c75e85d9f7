/- Patterns of paths, plain: trees, their cells, and how they are read. -/
import Derived.Test.YtflakkbodbnndaaS4
import Derived.Test.YtflakkbodbnndaaI4
import Derived.Test.YtflakkbodbnndaaAll4
import Derived.Test.YtflakkbodbnndaaAll5
import Derived.Test.YtflakkbodbnndaaAll1
/- GoodRoute of the specification and of the program. -/
namespace Go.Proofs.Ytflakkbodbnndaa
open Go.RowKit

/-- Whether a route is good. -/
def routeB (pa pl o nx md pf : Int) (n0 : Nat) (f : Nat → Int) (n1 : Nat) (g : Nat → Int) : Bool := goodB pa pl && attrB o nx md pf n0 f n1 g
set_option maxRecDepth 100000 in
set_option maxHeartbeats 800000 in
theorem s_goodRoute (pa pl o nx md pf : Int) (a0 : Option Addr) (n0 c0 : Nat) (f : Nat → Int) (a1 : Option Addr) (n1 c1 : Nat) (g : Nat → Int) (w : World) (h0 : n0 ≤ 1048576) (h1 : n1 ≤ 1048576) (R0 : RowInt a0 n0 f w) (R1 : RowInt a1 n1 g w) :
    Calls Try.prog 22 #[.agg #[.int .i64 pa, .int .i64 pl, .int .i64 o, .slice a0 n0 c0, .int .i64 nx, .int .i64 md, .int .i64 pf, .slice a1 n1 c1]] w fun e w' => e = .returned (.bool (routeB pa pl o nx md pf n0 f n1 g)) ∧ Below w.heap.size w w' := by
  have s0 := hide (fun w => s_good pa pl w)
  have s1 := hide (fun w R0 R1 => s_goodAttrs o nx md pf a0 n0 c0 f a1 n1 c1 g w h0 h1 R0 R1)
  clear h0 h1
  have M0 := Mut.new w #[.int .i64 pa, .int .i64 pl, .int .i64 o, .slice a0 n0 c0, .int .i64 nx, .int .i64 md, .int .i64 pf, .slice a1 n1 c1] 35
  have d0 : Below w.heap.size w (w.alloc (.cells #[.int .i64 pa, .int .i64 pl, .int .i64 o, .slice a0 n0 c0, .int .i64 nx, .int .i64 md, .int .i64 pf, .slice a1 n1 c1] 35)) := below_box (Below.refl _ _)
  unfold routeB
  generalize attrB o nx md pf n0 f n1 g = r at *
  cases hg : goodB pa pl with
  | false =>
    rw [hg] at s0
    go_enter Try.func22, Try.ntmps22
    go_wp2_with fail
    refine (s0.out _).mono ?_
    rintro e w1 ⟨rfl, b1⟩
    go_wp2_with fail
    go_ret
    exact ⟨rfl, d0.trans (b1.mono d0.size)⟩
  | true =>
    rw [hg] at s0
    go_enter Try.func22, Try.ntmps22
    go_wp2_with fail
    refine (s0.out _).mono ?_
    rintro e w1 ⟨rfl, b1⟩
    have M0 := M0.below b1
    have d1 := d0.trans (b1.mono d0.size)
    have u2 := M0.2.1 2 _ rfl
    have u3 := M0.2.1 3 _ rfl
    have u4 := M0.2.1 4 _ rfl
    have u5 := M0.2.1 5 _ rfl
    have u6 := M0.2.1 6 _ rfl
    have u7 := M0.2.1 7 _ rfl
    clear M0 d0 b1
    go_wp2_with fail
    refine (s1.out _ (R0.below d1) (R1.below d1)).mono ?_
    rintro e w2 ⟨rfl, b2⟩
    go_wp2_with fail
    go_ret
    exact ⟨rfl, d1.trans (b2.mono d1.size)⟩
set_option maxRecDepth 100000 in
set_option maxHeartbeats 800000 in
theorem i_goodRoute (pa pl o nx md pf : Int) (a0 : Option Addr) (n0 c0 : Nat) (f : Nat → Int) (a1 : Option Addr) (n1 c1 : Nat) (g : Nat → Int) (w : World) (h0 : n0 ≤ 1048576) (h1 : n1 ≤ 1048576) (R0 : RowInt a0 n0 f w) (R1 : RowInt a1 n1 g w) :
    Calls Try.prog 27 #[.agg #[.int .i64 pa, .int .i64 pl, .int .i64 o, .slice a0 n0 c0, .int .i64 nx, .int .i64 md, .int .i64 pf, .slice a1 n1 c1]] w fun e w' => e = .returned (.bool (routeB pa pl o nx md pf n0 f n1 g)) ∧ Below w.heap.size w w' := by
  have s0 := hide (fun w => i_good pa pl w)
  have s1 := hide (fun w R0 R1 => i_goodAttrs o nx md pf a0 n0 c0 f a1 n1 c1 g w h0 h1 R0 R1)
  clear h0 h1
  have M0 := Mut.new w #[.int .i64 pa, .int .i64 pl, .int .i64 o, .slice a0 n0 c0, .int .i64 nx, .int .i64 md, .int .i64 pf, .slice a1 n1 c1] 35
  have d0 : Below w.heap.size w (w.alloc (.cells #[.int .i64 pa, .int .i64 pl, .int .i64 o, .slice a0 n0 c0, .int .i64 nx, .int .i64 md, .int .i64 pf, .slice a1 n1 c1] 35)) := below_box (Below.refl _ _)
  unfold routeB
  generalize attrB o nx md pf n0 f n1 g = r at *
  cases hg : goodB pa pl with
  | false =>
    rw [hg] at s0
    go_enter Try.func27, Try.ntmps27
    go_wp2_with fail
    refine (s0.out _).mono ?_
    rintro e w1 ⟨rfl, b1⟩
    go_wp2_with fail
    go_ret
    exact ⟨rfl, d0.trans (b1.mono d0.size)⟩
  | true =>
    rw [hg] at s0
    go_enter Try.func27, Try.ntmps27
    go_wp2_with fail
    refine (s0.out _).mono ?_
    rintro e w1 ⟨rfl, b1⟩
    have M0 := M0.below b1
    have d1 := d0.trans (b1.mono d0.size)
    have u2 := M0.2.1 2 _ rfl
    have u3 := M0.2.1 3 _ rfl
    have u4 := M0.2.1 4 _ rfl
    have u5 := M0.2.1 5 _ rfl
    have u6 := M0.2.1 6 _ rfl
    have u7 := M0.2.1 7 _ rfl
    clear M0 d0 b1
    go_wp2_with fail
    refine (s1.out _ (R0.below d1) (R1.below d1)).mono ?_
    rintro e w2 ⟨rfl, b2⟩
    go_wp2_with fail
    go_ret
    exact ⟨rfl, d1.trans (b2.mono d1.size)⟩
end Go.Proofs.Ytflakkbodbnndaa

namespace Go.Proofs.Ytflakkbodbnndaa

abbrev Cl := Int × Int
/-- A kid as it lies: its kind, its number, where its own kids lie. -/
abbrev Kd := Int × Int × Option Addr × Nat × Nat

/-- A pattern as a tree. -/
inductive Re where
  | non
  | emp
  | one (n : Int)
  | any
  | thn (a b : Re)
  | alt (a b : Re)
  | str (a : Re)

def Re.kind : Re → Int
  | .non => 1
  | .emp => 2
  | .one _ => 3
  | .any => 4
  | .thn _ _ => 5
  | .alt _ _ => 6
  | .str _ => 7
def Re.num : Re → Int
  | .one n => n
  | _ => 0
def Re.cells : Re → List Cl
  | .non => [(1, 0)]
  | .emp => [(2, 0)]
  | .one n => [(3, n)]
  | .any => [(4, 0)]
  | .thn a b => (5, 0) :: (a.cells ++ b.cells)
  | .alt a b => (6, 0) :: (a.cells ++ b.cells)
  | .str a => (7, 0) :: a.cells
theorem Re.cells_ne (t : Re) : t.cells ≠ [] := by cases t <;> simp [Re.cells]
theorem Re.cells_pos (t : Re) : 0 < t.cells.length := List.length_pos_iff.2 t.cells_ne
theorem Re.cells_head (t : Re) : ∃ R, t.cells = (t.kind, t.num) :: R := by cases t <;> exact ⟨_, rfl⟩
theorem Re.kind_bd (t : Re) : 1 ≤ t.kind ∧ t.kind ≤ 7 := by cases t <;> simp [Re.kind]

/-- No two trees have the same cells, whatever stands behind them. -/
theorem cells_cut (a : Re) : ∀ (b : Re) (X Y : List Cl), a.cells ++ X = b.cells ++ Y → a = b ∧ X = Y := by
  induction a with
  | non => intro b X Y h; cases b <;> simp_all [Re.cells]
  | emp => intro b X Y h; cases b <;> simp_all [Re.cells]
  | one n => intro b X Y h; cases b <;> simp_all [Re.cells]
  | any => intro b X Y h; cases b <;> simp_all [Re.cells]
  | thn a1 a2 h1 h2 =>
    intro b X Y h
    cases b <;> simp only [Re.cells, List.cons_append, List.append_assoc, List.cons.injEq, Prod.mk.injEq, List.nil_append] at h
    case thn b1 b2 =>
      obtain ⟨rfl, g⟩ := h1 _ _ _ h.2
      obtain ⟨rfl, g'⟩ := h2 _ _ _ g
      exact ⟨rfl, g'⟩
    all_goals omega
  | alt a1 a2 h1 h2 =>
    intro b X Y h
    cases b <;> simp only [Re.cells, List.cons_append, List.append_assoc, List.cons.injEq, Prod.mk.injEq, List.nil_append] at h
    case alt b1 b2 =>
      obtain ⟨rfl, g⟩ := h1 _ _ _ h.2
      obtain ⟨rfl, g'⟩ := h2 _ _ _ g
      exact ⟨rfl, g'⟩
    all_goals omega
  | str a1 h1 =>
    intro b X Y h
    cases b <;> simp only [Re.cells, List.cons_append, List.append_assoc, List.cons.injEq, Prod.mk.injEq, List.nil_append] at h
    case str b1 =>
      obtain ⟨rfl, g⟩ := h1 _ _ _ h.2
      exact ⟨rfl, g⟩
    all_goals omega
theorem cells_inj {a b : Re} (h : a.cells = b.cells) : a = b := (cells_cut a b [] [] (by simpa using h)).1

/-- Whether a cell is good. -/
def gcB (k n : Int) : Bool := if k = 3 then decide (1 ≤ n ∧ n ≤ 65535) else decide ((1 ≤ k ∧ k ≤ 7) ∧ n = 0)
theorem gcB_one {n : Int} (h : gcB 3 n = true) : 1 ≤ n ∧ n ≤ 65535 := by simpa [gcB] using h
theorem gcB_bd {k n : Int} (h : gcB k n = true) : 1 ≤ k ∧ k ≤ 7 := by
  unfold gcB at h
  split at h
  · omega
  · simp only [decide_eq_true_eq] at h; omega
theorem gcB_zero {k n : Int} (h : gcB k n = true) (hk : k ≠ 3) : n = 0 := by
  unfold gcB at h
  rw [if_neg hk] at h
  simp only [decide_eq_true_eq] at h
  exact h.2

/-- The tree that stands at the front of the cells, and what stands behind it. -/
def rd : Nat → List Cl → Option (Re × List Cl)
  | 0, _ => none
  | _ + 1, [] => none
  | f + 1, (k, n) :: L =>
    if gcB k n = false then none
    else if k = 1 then some (.non, L)
    else if k = 2 then some (.emp, L)
    else if k = 3 then some (.one n, L)
    else if k = 4 then some (.any, L)
    else if k = 5 then
      match rd f L with
      | none => none
      | some (a, L1) => match rd f L1 with
        | none => none
        | some (b, L2) => some (.thn a b, L2)
    else if k = 6 then
      match rd f L with
      | none => none
      | some (a, L1) => match rd f L1 with
        | none => none
        | some (b, L2) => some (.alt a b, L2)
    else
      match rd f L with
      | none => none
      | some (a, L1) => some (.str a, L1)

/-- Two trees. -/
def rd2 (f : Nat) (L : List Cl) : Option (Re × Re × List Cl) :=
  match rd f L with
  | none => none
  | some (a, L1) => match rd f L1 with
    | none => none
    | some (b, L2) => some (a, b, L2)

theorem rd_nil (f : Nat) : rd f [] = none := by cases f <;> rfl
theorem rd_bad {f : Nat} {k n : Int} {L : List Cl} (h : gcB k n = false) : rd (f + 1) ((k, n) :: L) = none := by simp [rd, h]
theorem rd_1 (f : Nat) (L : List Cl) : rd (f + 1) ((1, 0) :: L) = some (.non, L) := by simp [rd, gcB]
theorem rd_2 (f : Nat) (L : List Cl) : rd (f + 1) ((2, 0) :: L) = some (.emp, L) := by simp [rd, gcB]
theorem rd_3 {n : Int} (f : Nat) (L : List Cl) (h : gcB 3 n = true) : rd (f + 1) ((3, n) :: L) = some (.one n, L) := by simp [rd, h]
theorem rd_4 (f : Nat) (L : List Cl) : rd (f + 1) ((4, 0) :: L) = some (.any, L) := by simp [rd, gcB]
theorem rd_5 (f : Nat) (L : List Cl) : rd (f + 1) ((5, 0) :: L) = (rd2 f L).map fun x => (.thn x.1 x.2.1, x.2.2) := by
  simp only [rd, gcB, rd2]
  cases rd f L with
  | none => simp
  | some x => obtain ⟨a, L1⟩ := x; cases hh : rd f L1 <;> simp [hh]
theorem rd_6 (f : Nat) (L : List Cl) : rd (f + 1) ((6, 0) :: L) = (rd2 f L).map fun x => (.alt x.1 x.2.1, x.2.2) := by
  simp only [rd, gcB, rd2]
  cases rd f L with
  | none => simp
  | some x => obtain ⟨a, L1⟩ := x; cases hh : rd f L1 <;> simp [hh]
theorem rd_7 (f : Nat) (L : List Cl) : rd (f + 1) ((7, 0) :: L) = (rd f L).map fun x => (.str x.1, x.2) := by
  simp only [rd, gcB]
  cases rd f L with
  | none => simp
  | some x => simp

/-- What is read are the cells of the tree, and what is left. -/
theorem rd_cells (f : Nat) : ∀ (L : List Cl) (t : Re) (R : List Cl), rd f L = some (t, R) → L = t.cells ++ R := by
  induction f with
  | zero => intro L t R h; simp [rd] at h
  | succ f ih =>
    intro L t R h
    cases L with
    | nil => simp [rd] at h
    | cons c L =>
      obtain ⟨k, n⟩ := c
      cases hg : gcB k n with
      | false => rw [rd_bad hg] at h; simp at h
      | true =>
        obtain ⟨k1, k7⟩ := gcB_bd hg
        have e2 : ∀ x, rd2 f L = some x → L = x.1.cells ++ (x.2.1.cells ++ x.2.2) := by
          intro x hx
          unfold rd2 at hx
          cases h1 : rd f L with
          | none => rw [h1] at hx; simp at hx
          | some y =>
            obtain ⟨a, L1⟩ := y
            rw [h1] at hx
            cases h2 : rd f L1 with
            | none => simp [h2] at hx
            | some z =>
              obtain ⟨b, L2⟩ := z
              simp [h2] at hx
              subst hx
              rw [ih _ _ _ h1, ih _ _ _ h2]
        by_cases c3 : k = 3
        · subst c3
          rw [rd_3 f L hg] at h
          simp at h
          obtain ⟨rfl, rfl⟩ := h
          rfl
        · have n0 := gcB_zero hg c3
          subst n0
          rcases (show k = 1 ∨ k = 2 ∨ k = 4 ∨ k = 5 ∨ k = 6 ∨ k = 7 by omega) with rfl | rfl | rfl | rfl | rfl | rfl
          · rw [rd_1] at h; simp at h; obtain ⟨rfl, rfl⟩ := h; rfl
          · rw [rd_2] at h; simp at h; obtain ⟨rfl, rfl⟩ := h; rfl
          · rw [rd_4] at h; simp at h; obtain ⟨rfl, rfl⟩ := h; rfl
          · rw [rd_5] at h
            cases hx : rd2 f L with
            | none => rw [hx] at h; simp at h
            | some x =>
              rw [hx] at h
              simp at h
              obtain ⟨rfl, rfl⟩ := h
              have := e2 x hx
              simp only [Re.cells, List.cons_append, List.append_assoc]
              rw [← this]
          · rw [rd_6] at h
            cases hx : rd2 f L with
            | none => rw [hx] at h; simp at h
            | some x =>
              rw [hx] at h
              simp at h
              obtain ⟨rfl, rfl⟩ := h
              have := e2 x hx
              simp only [Re.cells, List.cons_append, List.append_assoc]
              rw [← this]
          · rw [rd_7] at h
            cases hx : rd f L with
            | none => rw [hx] at h; simp at h
            | some x =>
              rw [hx] at h
              simp at h
              obtain ⟨rfl, rfl⟩ := h
              have := ih L x.1 x.2 hx
              simp only [Re.cells, List.cons_append]
              rw [← this]
theorem rd_len {f : Nat} {L : List Cl} {t : Re} {R : List Cl} (h : rd f L = some (t, R)) : t.cells.length + R.length = L.length := by
  rw [rd_cells f L t R h]; simp
theorem rd_drop {f : Nat} {L : List Cl} {t : Re} {R : List Cl} (h : rd f L = some (t, R)) : R = L.drop (L.length - R.length) := by
  have e := rd_cells f L t R h
  have l := rd_len h
  have : L.length - R.length = t.cells.length := by omega
  rw [this]
  conv => rhs; rw [e]
  simp

/-- The tree of a pattern. -/
def rg (L : List Cl) : Option Re :=
  if L.length ≤ 30 then
    match rd L.length L with
    | some (t, []) => some t
    | _ => none
  else none
def rgB (L : List Cl) : Bool := (rg L).isSome
theorem rg_cells {L : List Cl} {t : Re} (h : rg L = some t) : L = t.cells ∧ L.length ≤ 30 ∧ rd L.length L = some (t, []) := by
  unfold rg at h
  split at h
  · rename_i h30
    split at h
    · rename_i t' he
      simp at h
      subst h
      have := rd_cells _ _ _ _ he
      exact ⟨by simpa using this, h30, he⟩
    · simp at h
  · simp at h

/-- Whether the empty row is one of a pattern's. -/
def Re.te : Re → Bool
  | .emp => true
  | .str _ => true
  | .thn a b => a.te && b.te
  | .alt a b => a.te || b.te
  | _ => false
end Go.Proofs.Ytflakkbodbnndaa
