/- What the specification's l6Free and l6Nfa answer. -/
import Derived.Test.YtdbaonpkdcmglaaEdge6
import Derived.Test.YtdbaonpkdcmglaaS6c
namespace Go.Proofs.Ytdbaonpkdcmglaa
open Go.RowKit

set_option maxRecDepth 100000 in
set_option maxHeartbeats 400000 in
theorem s_free (x y : Int) (w : World) : Calls Try.prog 94 #[.int .i64 x, .int .i64 y] w fun e w' => e = .returned (.agg #[.int .i64 x, .int .i64 y, .bool true, .bool false, .int .i64 0]) ∧ Below w.heap.size w w' := by
  go_enter Try.func94, Try.ntmps94
  go_wp2_with fail
  exact bodyPost_ret (v := .agg #[.int .i64 x, .int .i64 y, .bool true, .bool false, .int .i64 0]) (by simp [results, Try.results94, go_sem]) rfl ⟨rfl, below_box (Below.refl _ _)⟩
/-- The list of edges, those of the tree behind it; and where the tree ends. -/
def NfaP (base : Nat) (E : List Ed) (j : Int) (w : World) (e : Ending) (w' : World) : Prop := ∃ v x, e = .returned (.tuple #[v, .int .i64 x]) ∧ x = j ∧ OwnG base v E w' ∧ Below base w w'
theorem srcLitG (L : List Ed) (w : World) (hl : L.length ≤ 1000) : SrcG (some ⟨w.heap.size, 0, none⟩) L L.length (w.alloc (.cells (gArr L) 103)) := by
  have h := ownLitG w.heap.size L w (Nat.le_refl _) hl
  obtain ⟨a, c, e, hs⟩ := SrcG.own h
  simp only [Value.slice.injEq, true_and] at e
  obtain ⟨rfl, rfl⟩ := e
  exact hs
theorem RowQ.ofBase {b off base : Nat} {L : List Cl} {w w' : World} (h : RowQ (some ⟨b, off, none⟩) L w) (hb : b < base) (k : Below base w w') : RowQ (some ⟨b, off, none⟩) L w' :=
  h.base (fun b' off' e => by simp at e; omega) k
set_option maxRecDepth 100000 in
set_option maxHeartbeats 6400000 in
theorem s_nfa_non (L : List Cl) (b off cap pos base : Nat) (v : Value) (E : List Ed) (w : World) (hlt : pos < L.length) (hp : L.length ≤ 30) (_hb : b < base) (_hbw : base ≤ w.heap.size) (c0 : w.cell? ⟨b, off + pos * 2, none⟩ = some (.int .i64 1)) (_c1 : w.cell? ⟨b, off + pos * 2 + 1, none⟩ = some (.int .i64 0)) (ho : OwnG base v E w) (_hE : E.length ≤ 100000) :
    Calls Try.prog 62 #[.slice (some ⟨b, off, none⟩) L.length cap, .int .i64 pos, v] w (NfaP base (E) ((pos : Int) + 1) w) := by
  have h' : (pos : Int) < (L.length : Int) := by omega
  go_enter Try.func62, Try.ntmps62
  go_wp2_with fail
  go_ret2
  exact ⟨_, _, rfl, rfl, ho, Below.refl _ _⟩
set_option maxRecDepth 100000 in
set_option maxHeartbeats 6400000 in
theorem s_nfa_one (L : List Cl) (b off cap pos base : Nat) (n : Int) (v : Value) (E : List Ed) (w : World) (hlt : pos < L.length) (hp : L.length ≤ 30) (_hb : b < base) (hbw : base ≤ w.heap.size) (c0 : w.cell? ⟨b, off + pos * 2, none⟩ = some (.int .i64 3)) (c1 : w.cell? ⟨b, off + pos * 2 + 1, none⟩ = some (.int .i64 n)) (ho : OwnG base v E w) (hE : E.length ≤ 100000) :
    Calls Try.prog 62 #[.slice (some ⟨b, off, none⟩) L.length cap, .int .i64 pos, v] w (NfaP base (E ++ [(2 * (pos : Int), 2 * (pos : Int) + 1, false, false, n)]) ((pos : Int) + 1) w) := by
  have h' : (pos : Int) < (L.length : Int) := by omega
  have hO1 := hide (ownG_below ho (below_box (o := .cells (gArr [(2 * (pos : Int), 2 * (pos : Int) + 1, false, false, n)]) 103) (Below.refl _ _)))
  have hs := hide (srcLitG [(2 * (pos : Int), 2 * (pos : Int) + 1, false, false, n)] w (by simp))
  have hz : base ≤ (w.alloc (.cells (gArr [(2 * (pos : Int), 2 * (pos : Int) + 1, false, false, n)]) 103)).heap.size := by simp; omega
  have d1 : Below base w (w.alloc (.cells (gArr [(2 * (pos : Int), 2 * (pos : Int) + 1, false, false, n)]) 103)) := (below_box (Below.refl _ _)).mono hbw
  replace hz := hide hz
  replace d1 := hide d1
  go_enter Try.func62, Try.ntmps62
  go_wp2_with (first | (at_builtin; refine wpList_appG rfl _ _ rfl base v E rfl hO1.out (some ⟨w.heap.size, 0, none⟩) [(2 * (pos : Int), 2 * (pos : Int) + 1, false, false, n)] 1 rfl hs.out (by simp only [List.length_cons, List.length_nil]; omega) hz.out ?_))
  intro v5 w5 ho5 hb5 _
  replace ho5 := hide ho5
  replace hb5 := hide (d1.out.trans hb5)
  go_wp2_with fail
  go_ret2
  exact ⟨_, _, rfl, rfl, ho5.out, hb5.out⟩
set_option maxRecDepth 100000 in
set_option maxHeartbeats 6400000 in
theorem s_nfa_any (L : List Cl) (b off cap pos base : Nat) (v : Value) (E : List Ed) (w : World) (hlt : pos < L.length) (hp : L.length ≤ 30) (_hb : b < base) (hbw : base ≤ w.heap.size) (c0 : w.cell? ⟨b, off + pos * 2, none⟩ = some (.int .i64 4)) (_c1 : w.cell? ⟨b, off + pos * 2 + 1, none⟩ = some (.int .i64 0)) (ho : OwnG base v E w) (hE : E.length ≤ 100000) :
    Calls Try.prog 62 #[.slice (some ⟨b, off, none⟩) L.length cap, .int .i64 pos, v] w (NfaP base (E ++ [(2 * (pos : Int), 2 * (pos : Int) + 1, false, true, 0)]) ((pos : Int) + 1) w) := by
  have h' : (pos : Int) < (L.length : Int) := by omega
  have hO1 := hide (ownG_below ho (below_box (o := .cells (gArr [(2 * (pos : Int), 2 * (pos : Int) + 1, false, true, 0)]) 103) (Below.refl _ _)))
  have hs := hide (srcLitG [(2 * (pos : Int), 2 * (pos : Int) + 1, false, true, 0)] w (by simp))
  have hz : base ≤ (w.alloc (.cells (gArr [(2 * (pos : Int), 2 * (pos : Int) + 1, false, true, 0)]) 103)).heap.size := by simp; omega
  have d1 : Below base w (w.alloc (.cells (gArr [(2 * (pos : Int), 2 * (pos : Int) + 1, false, true, 0)]) 103)) := (below_box (Below.refl _ _)).mono hbw
  replace hz := hide hz
  replace d1 := hide d1
  go_enter Try.func62, Try.ntmps62
  go_wp2_with (first | (at_builtin; refine wpList_appG rfl _ _ rfl base v E rfl hO1.out (some ⟨w.heap.size, 0, none⟩) [(2 * (pos : Int), 2 * (pos : Int) + 1, false, true, 0)] 1 rfl hs.out (by simp only [List.length_cons, List.length_nil]; omega) hz.out ?_))
  intro v5 w5 ho5 hb5 _
  replace ho5 := hide ho5
  replace hb5 := hide (d1.out.trans hb5)
  go_wp2_with fail
  go_ret2
  exact ⟨_, _, rfl, rfl, ho5.out, hb5.out⟩
set_option maxRecDepth 100000 in
set_option maxHeartbeats 6400000 in
theorem s_nfa_emp (L : List Cl) (b off cap pos base : Nat) (v : Value) (E : List Ed) (w : World) (hlt : pos < L.length) (hp : L.length ≤ 30) (_hb : b < base) (hbw : base ≤ w.heap.size) (c0 : w.cell? ⟨b, off + pos * 2, none⟩ = some (.int .i64 2)) (_c1 : w.cell? ⟨b, off + pos * 2 + 1, none⟩ = some (.int .i64 0)) (ho : OwnG base v E w) (hE : E.length ≤ 100000) :
    Calls Try.prog 62 #[.slice (some ⟨b, off, none⟩) L.length cap, .int .i64 pos, v] w (NfaP base (E ++ [frI (2 * (pos : Int)) (2 * (pos : Int) + 1)]) ((pos : Int) + 1) w) := by
  have h' : (pos : Int) < (L.length : Int) := by omega
  have F := hide s_free
  go_enter Try.func62, Try.ntmps62
  go_wp2_with fail
  refine (F.out _ _ _).mono ?_
  rintro e f1 ⟨rfl, bf1⟩
  have hO1 := hide (ownG_below (ownG_below ho bf1) (below_box (o := .cells (gArr [frI (2 * (pos : Int)) (2 * (pos : Int) + 1)]) 103) (Below.refl _ _)))
  have hs := hide (srcLitG [frI (2 * (pos : Int)) (2 * (pos : Int) + 1)] f1 (by simp))
  have hzz := bf1.size
  have hz : base ≤ (f1.alloc (.cells (gArr [frI (2 * (pos : Int)) (2 * (pos : Int) + 1)]) 103)).heap.size := by simp; omega
  have d1 : Below base w (f1.alloc (.cells (gArr [frI (2 * (pos : Int)) (2 * (pos : Int) + 1)]) 103)) := (below_step bf1 (below_box (Below.refl _ _))).mono hbw
  replace hz := hide hz
  replace d1 := hide d1
  clear hzz
  go_wp2_with (first | (at_builtin; refine wpList_appG rfl _ _ rfl base v E rfl hO1.out (some ⟨f1.heap.size, 0, none⟩) [frI (2 * (pos : Int)) (2 * (pos : Int) + 1)] 1 rfl hs.out (by simp only [List.length_cons, List.length_nil]; omega) hz.out ?_))
  intro v5 w5 ho5 hb5 _
  replace ho5 := hide ho5
  replace hb5 := hide (d1.out.trans hb5)
  go_wp2_with fail
  go_ret2
  exact ⟨_, _, rfl, rfl, ho5.out, hb5.out⟩
set_option maxRecDepth 100000 in
set_option maxHeartbeats 6400000 in
theorem s_nfa_str (L : List Cl) (b off cap pos base : Nat) (a : Re) (v : Value) (E : List Ed) (w : World) (hlt : pos < L.length) (hp : L.length ≤ 30) (hb : b < base) (hbw : base ≤ w.heap.size) (c0 : w.cell? ⟨b, off + pos * 2, none⟩ = some (.int .i64 7)) (_c1 : w.cell? ⟨b, off + pos * 2 + 1, none⟩ = some (.int .i64 0)) (ho : OwnG base v E w) (hE : E.length ≤ 100000) (hR : RowQ (some ⟨b, off, none⟩) L w) (hE2 : E.length + 4 * a.cells.length + 4 ≤ 100000)
    (IA : Hid (∀ (v : Value) (E : List Ed) (w : World), base ≤ w.heap.size → RowQ (some ⟨b, off, none⟩) L w → OwnG base v E w → E.length + 4 * a.cells.length ≤ 100000 → Calls Try.prog 62 #[.slice (some ⟨b, off, none⟩) L.length cap, .int .i64 ((pos : Int) + 1), v] w (NfaP base (E ++ a.edi ((pos : Int) + 1)) ((pos : Int) + 1 + (a.cells.length : Int)) w))) :
    Calls Try.prog 62 #[.slice (some ⟨b, off, none⟩) L.length cap, .int .i64 pos, v] w (NfaP base (E ++ Re.edi (.str a) (pos : Int)) ((pos : Int) + ((Re.str a).cells.length : Int)) w) := by
  have h' : (pos : Int) < (L.length : Int) := by omega
  have F := hide s_free
  go_enter Try.func62, Try.ntmps62
  go_wp2_with fail
  refine (F.out _ _ _).mono ?_
  rintro e f1 ⟨rfl, bf1⟩
  go_wp2_with fail
  refine (F.out _ _ _).mono ?_
  rintro e f2 ⟨rfl, bf2⟩
  replace bf2 := below_step bf1 bf2
  go_wp2_with fail
  refine (F.out _ _ _).mono ?_
  rintro e f3 ⟨rfl, bf3⟩
  replace bf3 := below_step bf2 bf3
  go_wp2_with fail
  refine (F.out _ _ _).mono ?_
  rintro e f4 ⟨rfl, bf4⟩
  replace bf4 := below_step bf3 bf4
  have hO1 := hide (ownG_below (ownG_below ho bf4) (below_box (o := .cells (gArr (strE (pos : Int) ((pos : Int) + 1))) 103) (Below.refl _ _)))
  have hs := hide (srcLitG (strE (pos : Int) ((pos : Int) + 1)) f4 (by simp [strE]))
  have hzz := bf4.size
  have hz : base ≤ (f4.alloc (.cells (gArr (strE (pos : Int) ((pos : Int) + 1))) 103)).heap.size := by simp; omega
  have d1 : Below base w (f4.alloc (.cells (gArr (strE (pos : Int) ((pos : Int) + 1))) 103)) := (below_step bf4 (below_box (Below.refl _ _))).mono hbw
  replace hz := hide hz
  replace d1 := hide d1
  clear hzz
  go_wp2_with (first | (at_builtin; refine wpList_appG rfl _ _ rfl base v E rfl hO1.out (some ⟨f4.heap.size, 0, none⟩) (strE (pos : Int) ((pos : Int) + 1)) 4 rfl hs.out (by simp [strE]; omega) hz.out ?_))
  intro v5 w5 ho5 hb5 _
  replace ho5 := hide ho5
  replace hb5 := hide (d1.out.trans hb5)
  clear c0
  go_wp2_with fail
  refine (IA.out _ _ _ (Nat.le_trans hbw hb5.out.size) (hR.ofBase hb hb5.out) ho5.out (by simp [strE]; omega)).mono ?_
  rintro e w6 ⟨v6, x6, rfl, rfl, ho6, hb6⟩
  replace ho6 := hide ho6
  replace hb6 := hide (hb5.out.trans hb6)
  go_wp2_with fail
  go_ret2
  refine ⟨_, _, rfl, ?_, ?_, hb6.out⟩
  · simp only [Re.cells, List.length_cons]; omega
  · have := ho6.out
    simpa [Re.edi] using this
set_option maxRecDepth 100000 in
set_option maxHeartbeats 6400000 in
theorem s_nfa_thn (L : List Cl) (b off cap pos base : Nat) (a c : Re) (v : Value) (E : List Ed) (w : World) (hlt : pos < L.length) (hp : L.length ≤ 30) (hb : b < base) (hbw : base ≤ w.heap.size) (c0 : w.cell? ⟨b, off + pos * 2, none⟩ = some (.int .i64 5)) (_c1 : w.cell? ⟨b, off + pos * 2 + 1, none⟩ = some (.int .i64 0)) (ho : OwnG base v E w) (hE : E.length ≤ 100000) (hR : RowQ (some ⟨b, off, none⟩) L w) (hal : a.cells.length ≤ 30) (hE2 : E.length + 4 * a.cells.length + 4 * c.cells.length + 4 ≤ 100000)
    (RA : Hid (∀ (w : World), RowQ (some ⟨b, off, none⟩) L w → Calls Try.prog 81 #[.slice (some ⟨b, off, none⟩) L.length cap, .int .i64 ((pos : Int) + 1)] w (ReadYes a ((pos : Int) + 1 + (a.cells.length : Int)) w)))
    (IA : Hid (∀ (v : Value) (E : List Ed) (w : World), base ≤ w.heap.size → RowQ (some ⟨b, off, none⟩) L w → OwnG base v E w → E.length + 4 * a.cells.length ≤ 100000 → Calls Try.prog 62 #[.slice (some ⟨b, off, none⟩) L.length cap, .int .i64 ((pos : Int) + 1), v] w (NfaP base (E ++ a.edi ((pos : Int) + 1)) ((pos : Int) + 1 + (a.cells.length : Int)) w)))
    (IB : Hid (∀ (v : Value) (E : List Ed) (w : World), base ≤ w.heap.size → RowQ (some ⟨b, off, none⟩) L w → OwnG base v E w → E.length + 4 * c.cells.length ≤ 100000 → Calls Try.prog 62 #[.slice (some ⟨b, off, none⟩) L.length cap, .int .i64 ((pos : Int) + 1 + (a.cells.length : Int)), v] w (NfaP base (E ++ c.edi ((pos : Int) + 1 + (a.cells.length : Int))) ((pos : Int) + 1 + (a.cells.length : Int) + (c.cells.length : Int)) w))) :
    Calls Try.prog 62 #[.slice (some ⟨b, off, none⟩) L.length cap, .int .i64 pos, v] w (NfaP base (E ++ Re.edi (.thn a c) (pos : Int)) ((pos : Int) + ((Re.thn a c).cells.length : Int)) w) := by
  have h' : (pos : Int) < (L.length : Int) := by omega
  have F := hide s_free
  go_enter Try.func62, Try.ntmps62
  go_wp2_with fail
  refine (RA.out _ hR).mono ?_
  rintro e r1 ⟨⟨k1, k2, k3⟩, rfl, _, br⟩
  have br2 := below_step br (below_box (o := .cells #[.int .i64 a.kind, .int .i64 a.num, .slice k1 k2 k3] 66) (Below.refl _ _))
  have hO0 := ownG_below ho br2
  obtain ⟨hcc, _⟩ := bcell br2
  have c0' := (hcc b (off + pos * 2) (by omega)).trans c0
  have hal' : (a.cells.length : Int) ≤ 30 := by omega
  clear c0 br hcc
  replace br2 := hide br2
  go_wp2_with fail
  refine (F.out _ _ _).mono ?_
  rintro e f1 ⟨rfl, bf1⟩
  go_wp2_with fail
  refine (F.out _ _ _).mono ?_
  rintro e f2 ⟨rfl, bf2⟩
  replace bf2 := below_step bf1 bf2
  go_wp2_with fail
  refine (F.out _ _ _).mono ?_
  rintro e f3 ⟨rfl, bf3⟩
  replace bf3 := below_step bf2 bf3
  have hO1 := hide (ownG_below (ownG_below hO0 bf3) (below_box (o := .cells (gArr (thnE (pos : Int) ((pos : Int) + 1) ((pos : Int) + 1 + (a.cells.length : Int)))) 103) (Below.refl _ _)))
  have hs := hide (srcLitG (thnE (pos : Int) ((pos : Int) + 1) ((pos : Int) + 1 + (a.cells.length : Int))) f3 (by simp [thnE]))
  have hzz := bf3.size
  have hz : base ≤ (f3.alloc (.cells (gArr (thnE (pos : Int) ((pos : Int) + 1) ((pos : Int) + 1 + (a.cells.length : Int)))) 103)).heap.size := by have := br2.out.size; simp; omega
  have d1 : Below base w (f3.alloc (.cells (gArr (thnE (pos : Int) ((pos : Int) + 1) ((pos : Int) + 1 + (a.cells.length : Int)))) 103)) := (below_step (below_step br2.out bf3) (below_box (Below.refl _ _))).mono hbw
  replace hz := hide hz
  replace d1 := hide d1
  clear hzz
  go_wp2_with (first | (at_builtin; refine wpList_appG rfl _ _ rfl base v E rfl hO1.out (some ⟨f3.heap.size, 0, none⟩) (thnE (pos : Int) ((pos : Int) + 1) ((pos : Int) + 1 + (a.cells.length : Int))) 3 rfl hs.out (by simp [thnE]; omega) hz.out ?_))
  intro v5 w5 ho5 hb5 _
  replace ho5 := hide ho5
  replace hb5 := hide (d1.out.trans hb5)
  clear c0'
  go_wp2_with fail
  refine (IA.out _ _ _ (Nat.le_trans hbw hb5.out.size) (hR.ofBase hb hb5.out) ho5.out (by simp [thnE]; omega)).mono ?_
  rintro e w6 ⟨v6, x6, rfl, rfl, ho6, hb6⟩
  replace ho6 := hide ho6
  replace hb6 := hide (hb5.out.trans hb6)
  have hla := edi_len a ((pos : Int) + 1)
  go_wp2_with fail
  refine (IB.out _ _ _ (Nat.le_trans hbw hb6.out.size) (hR.ofBase hb hb6.out) ho6.out (by simp [thnE]; omega)).mono ?_
  rintro e w7 ⟨v7, x7, rfl, rfl, ho7, hb7⟩
  replace ho7 := hide ho7
  replace hb7 := hide (hb6.out.trans hb7)
  go_wp2_with fail
  go_ret2
  refine ⟨_, _, rfl, ?_, ?_, hb7.out⟩
  · simp only [Re.cells, List.length_cons, List.length_append]; omega
  · have := ho7.out
    simpa [Re.edi] using this
set_option maxRecDepth 100000 in
set_option maxHeartbeats 6400000 in
theorem s_nfa_alt (L : List Cl) (b off cap pos base : Nat) (a c : Re) (v : Value) (E : List Ed) (w : World) (hlt : pos < L.length) (hp : L.length ≤ 30) (hb : b < base) (hbw : base ≤ w.heap.size) (c0 : w.cell? ⟨b, off + pos * 2, none⟩ = some (.int .i64 6)) (_c1 : w.cell? ⟨b, off + pos * 2 + 1, none⟩ = some (.int .i64 0)) (ho : OwnG base v E w) (hE : E.length ≤ 100000) (hR : RowQ (some ⟨b, off, none⟩) L w) (hal : a.cells.length ≤ 30) (hE2 : E.length + 4 * a.cells.length + 4 * c.cells.length + 4 ≤ 100000)
    (RA : Hid (∀ (w : World), RowQ (some ⟨b, off, none⟩) L w → Calls Try.prog 81 #[.slice (some ⟨b, off, none⟩) L.length cap, .int .i64 ((pos : Int) + 1)] w (ReadYes a ((pos : Int) + 1 + (a.cells.length : Int)) w)))
    (IA : Hid (∀ (v : Value) (E : List Ed) (w : World), base ≤ w.heap.size → RowQ (some ⟨b, off, none⟩) L w → OwnG base v E w → E.length + 4 * a.cells.length ≤ 100000 → Calls Try.prog 62 #[.slice (some ⟨b, off, none⟩) L.length cap, .int .i64 ((pos : Int) + 1), v] w (NfaP base (E ++ a.edi ((pos : Int) + 1)) ((pos : Int) + 1 + (a.cells.length : Int)) w)))
    (IB : Hid (∀ (v : Value) (E : List Ed) (w : World), base ≤ w.heap.size → RowQ (some ⟨b, off, none⟩) L w → OwnG base v E w → E.length + 4 * c.cells.length ≤ 100000 → Calls Try.prog 62 #[.slice (some ⟨b, off, none⟩) L.length cap, .int .i64 ((pos : Int) + 1 + (a.cells.length : Int)), v] w (NfaP base (E ++ c.edi ((pos : Int) + 1 + (a.cells.length : Int))) ((pos : Int) + 1 + (a.cells.length : Int) + (c.cells.length : Int)) w))) :
    Calls Try.prog 62 #[.slice (some ⟨b, off, none⟩) L.length cap, .int .i64 pos, v] w (NfaP base (E ++ Re.edi (.alt a c) (pos : Int)) ((pos : Int) + ((Re.alt a c).cells.length : Int)) w) := by
  have h' : (pos : Int) < (L.length : Int) := by omega
  have F := hide s_free
  go_enter Try.func62, Try.ntmps62
  go_wp2_with fail
  refine (RA.out _ hR).mono ?_
  rintro e r1 ⟨⟨k1, k2, k3⟩, rfl, _, br⟩
  have br2 := below_step br (below_box (o := .cells #[.int .i64 a.kind, .int .i64 a.num, .slice k1 k2 k3] 66) (Below.refl _ _))
  have hO0 := ownG_below ho br2
  obtain ⟨hcc, _⟩ := bcell br2
  have c0' := (hcc b (off + pos * 2) (by omega)).trans c0
  have hal' : (a.cells.length : Int) ≤ 30 := by omega
  clear c0 br hcc
  replace br2 := hide br2
  go_wp2_with fail
  refine (F.out _ _ _).mono ?_
  rintro e f1 ⟨rfl, bf1⟩
  go_wp2_with fail
  refine (F.out _ _ _).mono ?_
  rintro e f2 ⟨rfl, bf2⟩
  replace bf2 := below_step bf1 bf2
  go_wp2_with fail
  refine (F.out _ _ _).mono ?_
  rintro e f3 ⟨rfl, bf3⟩
  replace bf3 := below_step bf2 bf3
  go_wp2_with fail
  refine (F.out _ _ _).mono ?_
  rintro e f4 ⟨rfl, bf4⟩
  replace bf4 := below_step bf3 bf4
  have hO1 := hide (ownG_below (ownG_below hO0 bf4) (below_box (o := .cells (gArr (altE (pos : Int) ((pos : Int) + 1) ((pos : Int) + 1 + (a.cells.length : Int)))) 103) (Below.refl _ _)))
  have hs := hide (srcLitG (altE (pos : Int) ((pos : Int) + 1) ((pos : Int) + 1 + (a.cells.length : Int))) f4 (by simp [altE]))
  have hzz := bf4.size
  have hz : base ≤ (f4.alloc (.cells (gArr (altE (pos : Int) ((pos : Int) + 1) ((pos : Int) + 1 + (a.cells.length : Int)))) 103)).heap.size := by have := br2.out.size; simp; omega
  have d1 : Below base w (f4.alloc (.cells (gArr (altE (pos : Int) ((pos : Int) + 1) ((pos : Int) + 1 + (a.cells.length : Int)))) 103)) := (below_step (below_step br2.out bf4) (below_box (Below.refl _ _))).mono hbw
  replace hz := hide hz
  replace d1 := hide d1
  clear hzz
  go_wp2_with (first | (at_builtin; refine wpList_appG rfl _ _ rfl base v E rfl hO1.out (some ⟨f4.heap.size, 0, none⟩) (altE (pos : Int) ((pos : Int) + 1) ((pos : Int) + 1 + (a.cells.length : Int))) 4 rfl hs.out (by simp [altE]; omega) hz.out ?_))
  intro v5 w5 ho5 hb5 _
  replace ho5 := hide ho5
  replace hb5 := hide (d1.out.trans hb5)
  clear c0'
  go_wp2_with fail
  refine (IA.out _ _ _ (Nat.le_trans hbw hb5.out.size) (hR.ofBase hb hb5.out) ho5.out (by simp [altE]; omega)).mono ?_
  rintro e w6 ⟨v6, x6, rfl, rfl, ho6, hb6⟩
  replace ho6 := hide ho6
  replace hb6 := hide (hb5.out.trans hb6)
  have hla := edi_len a ((pos : Int) + 1)
  go_wp2_with fail
  refine (IB.out _ _ _ (Nat.le_trans hbw hb6.out.size) (hR.ofBase hb hb6.out) ho6.out (by simp [altE]; omega)).mono ?_
  rintro e w7 ⟨v7, x7, rfl, rfl, ho7, hb7⟩
  replace ho7 := hide ho7
  replace hb7 := hide (hb6.out.trans hb7)
  go_wp2_with fail
  go_ret2
  refine ⟨_, _, rfl, ?_, ?_, hb7.out⟩
  · simp only [Re.cells, List.length_cons, List.length_append]; omega
  · have := ho7.out
    simpa [Re.edi] using this
theorem s_nfa (L : List Cl) (b off cap base : Nat) (hp : L.length ≤ 30) (hb : b < base) (f : Nat) : ∀ (pos : Nat) (t : Re) (R : List Cl) (v : Value) (E : List Ed) (w : World), rd f (L.drop pos) = some (t, R) → L.length - pos ≤ f → base ≤ w.heap.size → RowQ (some ⟨b, off, none⟩) L w → OwnG base v E w → E.length + 4 * t.cells.length ≤ 100000 →
    Calls Try.prog 62 #[.slice (some ⟨b, off, none⟩) L.length cap, .int .i64 pos, v] w (NfaP base (E ++ t.edi (pos : Int)) ((pos : Int) + (t.cells.length : Int)) w) := by
  induction f with
  | zero => intro pos t R v E w h; simp [rd] at h
  | succ f ih =>
    intro pos t R v E w h hf hbw hR ho hE
    have hlt : pos < L.length := by
      by_cases hx : pos < L.length
      · exact hx
      · rw [List.drop_eq_nil_of_le (by omega), rd_nil] at h
        simp at h
    obtain ⟨b', off', ea, hbl, c0, c1⟩ := hR pos hlt
    simp only [Option.some.injEq, Addr.mk.injEq, and_true] at ea
    obtain ⟨rfl, rfl⟩ := ea
    rw [List.drop_eq_getElem_cons hlt, ← qAt_eq hlt] at h
    generalize qAt L pos = c at c0 c1 h
    obtain ⟨k, n⟩ := c
    simp only at c0 c1
    cases hg : gcB k n with
    | false => rw [rd_bad hg] at h; simp at h
    | true =>
      obtain ⟨k1, k7⟩ := gcB_bd hg
      by_cases c3 : k = 3
      · subst c3
        rw [rd_3 f _ hg] at h
        simp at h
        obtain ⟨rfl, _⟩ := h
        simp only [Re.cells, List.length_cons, List.length_nil] at hE ⊢
        exact s_nfa_one L b off cap pos base n v E w hlt hp hb hbw c0 c1 ho (by omega)
      · have n0 := gcB_zero hg c3
        subst n0
        have two : ∀ x, rd2 f (L.drop (pos + 1)) = some x → x.1.cells.length + x.2.1.cells.length + 1 ≤ 30 ∧ rd f (L.drop (pos + 1)) = some (x.1, L.drop (pos + 1 + x.1.cells.length)) ∧ rd f (L.drop (pos + 1 + x.1.cells.length)) = some (x.2.1, x.2.2) ∧ pos + 1 + x.1.cells.length ≤ L.length := by
          intro x hx
          unfold rd2 at hx
          cases h1 : rd f (L.drop (pos + 1)) with
          | none => rw [h1] at hx; simp at hx
          | some y =>
            obtain ⟨a, L1⟩ := y
            rw [h1] at hx
            have l1 := rd_len h1
            have e1 := rd_drop h1
            rw [List.length_drop] at l1
            rw [List.drop_drop, List.length_drop, show pos + 1 + (L.length - (pos + 1) - L1.length) = pos + 1 + a.cells.length by omega] at e1
            cases h2 : rd f L1 with
            | none => simp [h2] at hx
            | some z =>
              obtain ⟨c, L2⟩ := z
              have l2 := rd_len h2
              simp [h2] at hx
              subst hx
              simp only
              exact ⟨by omega, by rw [e1], by rw [← e1]; exact h2, by omega⟩
        have RA : ∀ (a : Re) (L1 : List Cl), rd f (L.drop (pos + 1)) = some (a, L1) → ∀ (w : World), RowQ (some ⟨b, off, none⟩) L w → Calls Try.prog 81 #[.slice (some ⟨b, off, none⟩) L.length cap, .int .i64 ((pos : Int) + 1)] w (ReadYes a ((pos : Int) + 1 + (a.cells.length : Int)) w) := by
          intro a L1 h1 w hR
          have l1 := rd_len h1
          rw [List.length_drop] at l1
          have k := s_read L b off cap (by omega) f (pos + 1) w (by omega) (by omega) hR
          rw [h1] at k
          have e : (L.length : Int) - (L1.length : Int) = (pos : Int) + 1 + (a.cells.length : Int) := by omega
          have k' : Calls Try.prog 81 #[.slice (some ⟨b, off, none⟩) L.length cap, .int .i64 ((pos + 1 : Nat) : Int)] w (ReadYes a ((L.length : Int) - (L1.length : Int)) w) := k
          rw [e] at k'
          exact k'
        have IH : ∀ (p : Nat) (t : Re) (R : List Cl), rd f (L.drop p) = some (t, R) → L.length - p ≤ f → ∀ (v : Value) (E : List Ed) (w : World), base ≤ w.heap.size → RowQ (some ⟨b, off, none⟩) L w → OwnG base v E w → E.length + 4 * t.cells.length ≤ 100000 → Calls Try.prog 62 #[.slice (some ⟨b, off, none⟩) L.length cap, .int .i64 p, v] w (NfaP base (E ++ t.edi (p : Int)) ((p : Int) + (t.cells.length : Int)) w) :=
          fun p t R h1 h2 v E w h3 h4 h5 h6 => ih p t R v E w h1 h2 h3 h4 h5 h6
        rcases (show k = 1 ∨ k = 2 ∨ k = 4 ∨ k = 5 ∨ k = 6 ∨ k = 7 by omega) with rfl | rfl | rfl | rfl | rfl | rfl
        · rw [rd_1] at h
          simp at h
          obtain ⟨rfl, _⟩ := h
          simp only [Re.cells, List.length_cons, List.length_nil, Re.edi, List.append_nil] at hE ⊢
          exact s_nfa_non L b off cap pos base v E w hlt hp hb hbw c0 c1 ho (by omega)
        · rw [rd_2] at h
          simp at h
          obtain ⟨rfl, _⟩ := h
          simp only [Re.cells, List.length_cons, List.length_nil] at hE ⊢
          exact s_nfa_emp L b off cap pos base v E w hlt hp hb hbw c0 c1 ho (by omega)
        · rw [rd_4] at h
          simp at h
          obtain ⟨rfl, _⟩ := h
          simp only [Re.cells, List.length_cons, List.length_nil] at hE ⊢
          exact s_nfa_any L b off cap pos base v E w hlt hp hb hbw c0 c1 ho (by omega)
        · rw [rd_5] at h
          cases hx : rd2 f (L.drop (pos + 1)) with
          | none => rw [hx] at h; simp at h
          | some x =>
            rw [hx] at h
            simp at h
            obtain ⟨rfl, _⟩ := h
            obtain ⟨x1, x2, x3, x4⟩ := two x hx
            have ia := IH (pos + 1) _ _ x2 (by omega)
            have ib := IH (pos + 1 + x.1.cells.length) _ _ x3 (by omega)
            rw [show ((pos + 1 : Nat) : Int) = (pos : Int) + 1 by omega] at ia
            rw [show ((pos + 1 + x.1.cells.length : Nat) : Int) = (pos : Int) + 1 + (x.1.cells.length : Int) by omega] at ib
            have hE' : E.length + 4 * x.1.cells.length + 4 * x.2.1.cells.length + 4 ≤ 100000 := by simp only [Re.cells, List.length_cons, List.length_append] at hE; omega
            exact s_nfa_thn L b off cap pos base x.1 x.2.1 v E w hlt hp hb hbw c0 c1 ho (by omega) hR (by omega) hE' (RA _ _ x2) ia ib
        · rw [rd_6] at h
          cases hx : rd2 f (L.drop (pos + 1)) with
          | none => rw [hx] at h; simp at h
          | some x =>
            rw [hx] at h
            simp at h
            obtain ⟨rfl, _⟩ := h
            obtain ⟨x1, x2, x3, x4⟩ := two x hx
            have ia := IH (pos + 1) _ _ x2 (by omega)
            have ib := IH (pos + 1 + x.1.cells.length) _ _ x3 (by omega)
            rw [show ((pos + 1 : Nat) : Int) = (pos : Int) + 1 by omega] at ia
            rw [show ((pos + 1 + x.1.cells.length : Nat) : Int) = (pos : Int) + 1 + (x.1.cells.length : Int) by omega] at ib
            have hE' : E.length + 4 * x.1.cells.length + 4 * x.2.1.cells.length + 4 ≤ 100000 := by simp only [Re.cells, List.length_cons, List.length_append] at hE; omega
            exact s_nfa_alt L b off cap pos base x.1 x.2.1 v E w hlt hp hb hbw c0 c1 ho (by omega) hR (by omega) hE' (RA _ _ x2) ia ib
        · rw [rd_7] at h
          cases hx : rd f (L.drop (pos + 1)) with
          | none => rw [hx] at h; simp at h
          | some x =>
            rw [hx] at h
            simp at h
            obtain ⟨rfl, _⟩ := h
            have ia := IH (pos + 1) _ _ hx (by omega)
            rw [show ((pos + 1 : Nat) : Int) = (pos : Int) + 1 by omega] at ia
            have hE' : E.length + 4 * x.1.cells.length + 4 ≤ 100000 := by simp only [Re.cells, List.length_cons] at hE; omega
            exact s_nfa_str L b off cap pos base x.1 v E w hlt hp hb hbw c0 c1 ho (by omega) hR hE' ia
end Go.Proofs.Ytdbaonpkdcmglaa
