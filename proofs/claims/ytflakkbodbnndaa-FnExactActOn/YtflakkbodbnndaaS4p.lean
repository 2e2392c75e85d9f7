/- A path made longer: what the specification's l4Own and PrependPath answer. -/
import Derived.Test.YtflakkbodbnndaaS4
import Derived.Test.YtflakkbodbnndaaAll4
namespace Go.Proofs.Ytflakkbodbnndaa
open Go.RowKit

/-- The longer path. -/
def lon (asn : Int) (m : Nat) (n0 : Nat) (f : Nat → Int) : List Int := List.replicate m asn ++ (List.range n0).map f
theorem lon_len (asn : Int) (m n0 : Nat) (f : Nat → Int) : (lon asn m n0 f).length = m + n0 := by simp [lon]
theorem lon_lo (asn : Int) {m n0 i : Nat} (f : Nat → Int) (h : i < m) : (lon asn m n0 f).getD i 0 = asn := by
  unfold lon
  rw [List.getD_eq_getElem?_getD, List.getElem?_append_left (by simpa using h)]
  simp [h]
theorem lon_hi (asn : Int) {m n0 i : Nat} (f : Nat → Int) (h : i < n0) : (lon asn m n0 f).getD (m + i) 0 = f i := by
  unfold lon
  rw [List.getD_eq_getElem?_getD, List.getElem?_append_right (by simp)]
  simp [h]
theorem lon_path (asn : Int) {m n0 : Nat} (f : Nat → Int) (hm : 1 ≤ m) : pathB (m + n0) (fun i => (lon asn m n0 f).getD i 0) = (inB asn 1 65535 && pathB n0 f) := by
  cases h1 : inB asn 1 65535 with
  | false => exact rall_no (k := 0) (by omega) (by unfold pathOk; dsimp only; rw [lon_lo asn f (by omega)]; exact h1)
  | true =>
    rw [Bool.true_and]
    cases h2 : pathB n0 f with
    | true =>
      refine List.all_eq_true.2 (fun i hi => ?_)
      rw [List.mem_range] at hi
      unfold pathOk
      dsimp only
      by_cases hl : i < m
      · rw [lon_lo asn f hl]; exact h1
      · obtain ⟨j, rfl⟩ : ∃ j, i = m + j := ⟨i - m, by omega⟩
        rw [lon_hi asn f (by omega)]
        exact (List.all_eq_true.1 h2) j (List.mem_range.2 (by omega))
    | false =>
      unfold pathB at h2
      rw [List.all_eq_false] at h2
      obtain ⟨j, hj, h3⟩ := h2
      rw [List.mem_range] at hj
      refine rall_no (k := m + j) (by omega) ?_
      unfold pathOk
      dsimp only
      rw [lon_hi asn f hj]
      unfold pathOk at h3
      simpa using h3
/-- PrependPath answers yes. -/
def preB (o nx md pf : Int) (n0 : Nat) (f : Nat → Int) (n1 : Nat) (g : Nat → Int) (asn many : Int) : Bool :=
  attrB o nx md pf n0 f n1 g && inB asn 1 65535 && decide (1 ≤ many ∧ many + n0 ≤ 10)
theorem lon_attr {o nx md pf : Int} {n0 : Nat} {f : Nat → Int} {n1 : Nat} {g : Nat → Int} {asn : Int} {m : Nat} (hm : 1 ≤ m) (ha : attrB o nx md pf n0 f n1 g = true) (hs : inB asn 1 65535 = true) :
    attrB o nx md pf (m + n0) (fun i => (lon asn m n0 f).getD i 0) n1 g = decide (m + n0 ≤ 10) := by
  unfold attrB at ha ⊢
  simp only [Bool.and_eq_true] at ha
  obtain ⟨⟨⟨⟨⟨⟨⟨h1, h2⟩, h3⟩, h4⟩, h5⟩, h6⟩, h7⟩, h8⟩ := ha
  rw [lon_path asn f hm, hs, h1, h2, h3, h4, h6, h7, h8]
  simp
theorem ownN_only {e : TypeId} {k : IntKind} {w w' : World} {base c : Nat} {v : Value} {L : List Int} (h : OwnN e k base v L w) (o : Only c w w') (hn : v.ownBlock ≠ some c) : OwnN e k base v L w' :=
  World.ownsRow.kept h (row := some c) ⟨o.1, o.2.1, o.2.2.1, o.2.2.2.1, fun i hi hne => o.2.2.2.2 i hi (fun e => hne (by rw [e]))⟩ (.inr hn)
set_option maxRecDepth 100000 in
set_option maxHeartbeats 1600000 in
theorem s_own4 (o nx md pf : Int) (a0 : Option Addr) (n0 c0 : Nat) (f : Nat → Int) (a1 : Option Addr) (n1 c1 : Nat) (g : Nat → Int) (w : World) (h0 : n0 ≤ 10) (h1 : n1 ≤ 10) (S0 : SrcN .i64 a0 ((List.range n0).map f) c0 w) (S1 : SrcN .i64 a1 ((List.range n1).map g) c1 w) :
    Calls Try.prog 49 #[.agg #[.int .i64 o, .slice a0 n0 c0, .int .i64 nx, .int .i64 md, .int .i64 pf, .slice a1 n1 c1]] w fun e w' => ∃ pa pl pc y cy, e = .returned (.agg #[.int .i64 o, .slice pa pl pc, .int .i64 nx, .int .i64 md, .int .i64 pf, .slice (some ⟨y, 0, none⟩) n1 cy]) ∧
      OwnN 3 .i64 w.heap.size (.slice (some ⟨y, 0, none⟩) n1 cy) ((List.range n1).map g) w' ∧ Below w.heap.size w w' := by
  have M0 := ((Mut.new w #[.int .i64 o, .slice a0 n0 c0, .int .i64 nx, .int .i64 md, .int .i64 pf, .slice a1 n1 c1] 33).alloc (.cells #[.int .i64 0, .slice none 0 0, .int .i64 0, .int .i64 0, .int .i64 0, .slice none 0 0] 33)).alloc (.cells #[] 3)
  have M1 := (Mut.new (w.alloc (.cells #[.int .i64 o, .slice a0 n0 c0, .int .i64 nx, .int .i64 md, .int .i64 pf, .slice a1 n1 c1] 33)) #[.int .i64 0, .slice none 0 0, .int .i64 0, .int .i64 0, .int .i64 0, .slice none 0 0] 33).alloc (.cells #[] 3)
  have hm0 : OwnN 3 .i64 (w.heap.size + 1 + 1) (.slice (some ⟨w.heap.size + 1 + 1, 0, none⟩) 0 0) [] (((w.alloc (.cells #[.int .i64 o, .slice a0 n0 c0, .int .i64 nx, .int .i64 md, .int .i64 pf, .slice a1 n1 c1] 33)).alloc (.cells #[.int .i64 0, .slice none 0 0, .int .i64 0, .int .i64 0, .int .i64 0, .slice none 0 0] 33)).alloc (.cells #[] 3)) := by
    have := World.ownsRow_made (e := 3) (size := 1) (base := w.heap.size + 1 + 1) ((w.alloc (.cells #[.int .i64 o, .slice a0 n0 c0, .int .i64 nx, .int .i64 md, .int .i64 pf, .slice a1 n1 c1] 33)).alloc (.cells #[.int .i64 0, .slice none 0 0, .int .i64 0, .int .i64 0, .int .i64 0, .slice none 0 0] 33)) #[] 0 (by simp) (by decide) (by decide)
    unfold OwnN
    simpa [ncells] using this
  have d : Below w.heap.size w (((w.alloc (.cells #[.int .i64 o, .slice a0 n0 c0, .int .i64 nx, .int .i64 md, .int .i64 pf, .slice a1 n1 c1] 33)).alloc (.cells #[.int .i64 0, .slice none 0 0, .int .i64 0, .int .i64 0, .int .i64 0, .slice none 0 0] 33)).alloc (.cells #[] 3)) := below_box3 (Below.refl _ _)
  have hsz : w.heap.size + 1 + 1 ≤ (((w.alloc (.cells #[.int .i64 o, .slice a0 n0 c0, .int .i64 nx, .int .i64 md, .int .i64 pf, .slice a1 n1 c1] 33)).alloc (.cells #[.int .i64 0, .slice none 0 0, .int .i64 0, .int .i64 0, .int .i64 0, .slice none 0 0] 33)).alloc (.cells #[] 3)).heap.size := by simp
  simp only [World.size_alloc] at M1
  have S0 := S0.below d
  have hl0 := hide (show n0 = ((List.range n0).map f).length by simp)
  have hl1 := hide (show n1 = ((List.range n1).map g).length by simp)
  have hb0 : Hid (([] : List Int).length + ((List.range n0).map f).length ≤ 8589934593) := by show _ ≤ _; simp; omega
  have hb1 : Hid (([] : List Int).length + ((List.range n1).map g).length ≤ 8589934593) := by show _ ≤ _; simp; omega
  generalize hPP : (List.range n0).map f = P at *
  generalize hCC : (List.range n1).map g = C at *
  have hCh := hide hCC
  clear hPP hCC
  go_enter Try.func49, Try.ntmps49
  go_wp2_with (first | (at_builtin; refine wpList_appN numInt rfl _ _ rfl (w.heap.size + 1 + 1) _ [] rfl hm0 a0 P n0 c0 rfl hl0.out S0 hb0.out (by decide) hsz ?_))
  intro v1 w1 own1 b1 _ _
  have M0 := M0.base (by omega) b1
  have M1 := M1.base (by omega) b1
  have d1 := d.trans (b1.mono (by omega))
  have hs1 := Nat.le_trans hsz b1.size
  clear hm0 d b1 hsz
  obtain ⟨pa, pc, rfl, _⟩ := ownN_row own1
  have y1 := M0.2.1 1 _ rfl
  have z1 := M0.2.2 1 (by simp)
  have y5 := M0.2.1 5 _ rfl
  have z5 := M0.2.2 5 (by simp)
  clear own1
  have hszS : (w1.setCell ⟨w.heap.size, 1, none⟩ (.slice pa P.length pc)).heap.size = w1.heap.size := by simp
  have MS0 := (M0.set 1 (.slice pa P.length pc)).alloc (.cells #[] 3)
  have MS1 := (M1.other (c := w.heap.size) (by omega) 1 (.slice pa P.length pc)).alloc (.cells #[] 3)
  have dS : Below w.heap.size w ((w1.setCell ⟨w.heap.size, 1, none⟩ (.slice pa P.length pc)).alloc (.cells #[] 3)) := (d1.setCell (p := ⟨w.heap.size, 1, none⟩) (Nat.le_refl _) _).trans ((below_box (Below.refl _ _)).mono (by rw [hszS]; omega))
  have x5 := MS0.2.1 5 _ rfl
  have hm1 : OwnN 3 .i64 w1.heap.size (.slice (some ⟨w1.heap.size, 0, none⟩) 0 0) [] ((w1.setCell ⟨w.heap.size, 1, none⟩ (.slice pa P.length pc)).alloc (.cells #[] 3)) := by
    have := World.ownsRow_made (e := 3) (size := 1) (base := w1.heap.size) (w1.setCell ⟨w.heap.size, 1, none⟩ (.slice pa P.length pc)) #[] 0 (by simp) (by decide) (by decide)
    unfold OwnN
    simpa [ncells] using this
  have hsz2 : w1.heap.size ≤ ((w1.setCell ⟨w.heap.size, 1, none⟩ (.slice pa P.length pc)).alloc (.cells #[] 3)).heap.size := by simp
  have S1 := S1.below dS
  go_wp2_with (first | (at_builtin; refine wpList_appN numInt rfl _ _ rfl w1.heap.size _ [] rfl hm1 a1 C n1 c1 rfl hl1.out S1 hb1.out (by decide) hsz2 ?_))
  intro v2 w2 own2 b2 _ hbl
  have MS0 := MS0.base (by omega) b2
  have MS1 := MS1.base (by omega) b2
  have d2 := dS.trans (b2.mono (by omega))
  obtain ⟨ya, yc, rfl, _, hcase⟩ := ownN_row own2
  obtain ⟨y, rfl, hy1, hy2⟩ : ∃ y, ya = some ⟨y, 0, none⟩ ∧ w1.heap.size ≤ y ∧ y < w2.heap.size := by
    rcases hcase with ⟨rfl, _, _⟩ | ⟨q, h1, h2, h3⟩
    · simp [Value.ownBlock] at hbl
    · exact ⟨q, h1, h2, h3⟩
  clear hbl hcase hm1 M0 M1 d1 dS b2 x5 y1 y5 z1 z5 hszS hsz2
  have u0 := MS0.2.1 0 _ rfl
  have u1 := MS0.2.1 1 _ rfl
  have u2 := MS0.2.1 2 _ rfl
  have u3 := MS0.2.1 3 _ rfl
  have u4 := MS0.2.1 4 _ rfl
  have u5 := MS0.2.1 5 _ rfl
  have f5 := MS0.2.2 5 (by simp)
  have t0 := MS1.2.1 0 _ rfl
  have t1 := MS1.2.1 1 _ rfl
  have t2 := MS1.2.1 2 _ rfl
  have t3 := MS1.2.1 3 _ rfl
  have t4 := MS1.2.1 4 _ rfl
  have t5 := MS1.2.1 5 _ rfl
  have r0 := MS1.2.2 0 (by simp)
  have r1 := MS1.2.2 1 (by simp)
  have r2 := MS1.2.2 2 (by simp)
  have r3 := MS1.2.2 3 (by simp)
  have r4 := MS1.2.2 4 (by simp)
  have r5 := MS1.2.2 5 (by simp)
  clear MS0 MS1
  go_wp2_with fail
  have hon1 : Only w.heap.size w2 (w2.setCell ⟨w.heap.size, 5, none⟩ (.slice (some ⟨y, 0, none⟩) C.length yc)) := (Only.refl _ _).setCell _ _
  have hon2 : Only (w.heap.size + 1) (w2.setCell ⟨w.heap.size, 5, none⟩ (.slice (some ⟨y, 0, none⟩) C.length yc)) (((((((w2.setCell ⟨w.heap.size, 5, none⟩ (.slice (some ⟨y, 0, none⟩) C.length yc)).setCell ⟨w.heap.size + 1, 0, none⟩ (.int .i64 o)).setCell ⟨w.heap.size + 1, 1, none⟩ (.slice pa P.length pc)).setCell ⟨w.heap.size + 1, 2, none⟩ (.int .i64 nx)).setCell ⟨w.heap.size + 1, 3, none⟩ (.int .i64 md)).setCell ⟨w.heap.size + 1, 4, none⟩ (.int .i64 pf)).setCell ⟨w.heap.size + 1, 5, none⟩ (.slice (some ⟨y, 0, none⟩) C.length yc)) :=
    ((((((Only.refl _ _).setCell _ _).setCell _ _).setCell _ _).setCell _ _).setCell _ _).setCell _ _
  have hF := ownN_only (ownN_only own2 hon1 (by simp [Value.ownBlock]; omega)) hon2 (by simp [Value.ownBlock]; omega)
  have hF := ownN_base hF (base' := w.heap.size) (by omega)
  have hl1o := hl1.out
  have z2 := d2.size
  have dF : Below w.heap.size w _ := (d2.trans (hon1.below (by omega))).trans ((hon2.below (by have := hon1.2.2.2.1; omega)).mono (by omega))
  try simp only [List.nil_append] at hF
  exact bodyPost_ret (v := .agg #[.int .i64 o, .slice pa P.length pc, .int .i64 nx, .int .i64 md, .int .i64 pf, .slice (some ⟨y, 0, none⟩) C.length yc]) (by simp [results, Try.results49, go_sem, *]) rfl ⟨pa, P.length, pc, y, yc, by rw [hl1o], by rw [hl1o]; exact hF, dF⟩
end Go.Proofs.Ytflakkbodbnndaa
