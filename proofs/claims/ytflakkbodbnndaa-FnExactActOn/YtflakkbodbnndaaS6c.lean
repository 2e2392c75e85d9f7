/- What the specification's l6Read answers at cells with parts; l6Read whole. -/
import Derived.Test.YtflakkbodbnndaaAll9
namespace Go.Proofs.Ytflakkbodbnndaa
open Go.RowKit

/-- What is read so far: the trees ts, m more to come. -/
def SoFar (ar f : Nat) (L0 : List Cl) (ts : List Re) (m : Nat) (Rest : List Cl) : Prop := rdn ar f L0 = (rdn m f Rest).map fun x => (ts ++ x.1, x.2)
theorem SoFar.start (ar f : Nat) (L0 : List Cl) : SoFar ar f L0 [] ar L0 := by
  unfold SoFar
  cases rdn ar f L0 <;> simp
theorem SoFar.step {ar f m : Nat} {L0 Rest R : List Cl} {ts : List Re} {t : Re} (h : SoFar ar f L0 ts (m + 1) Rest) (hx : rd f Rest = some (t, R)) : SoFar ar f L0 (ts ++ [t]) m R := by
  unfold SoFar at h ⊢
  rw [h]
  simp only [rdn, hx]
  cases rdn m f R <;> simp
theorem SoFar.no {ar f m : Nat} {L0 Rest : List Cl} {ts : List Re} (h : SoFar ar f L0 ts (m + 1) Rest) (hx : rd f Rest = none) : rdn ar f L0 = none := by
  unfold SoFar at h
  rw [h]
  simp [rdn, hx]
theorem SoFar.done {ar f : Nat} {L0 Rest : List Cl} {ts : List Re} (h : SoFar ar f L0 ts 0 Rest) : rdn ar f L0 = some (ts, Rest) := by
  unfold SoFar at h
  rw [h]
  simp [rdn]
/-- The blocks of trees that are read: behind the tree's own box, and not the list's. -/
abbrev Off (tb : Nat) (kv : Value) : Nat → Prop := fun g => tb < g ∧ some g ≠ kv.ownBlock
theorem trees_grow {tb : Nat} {kv v' : Value} {W w5 : World} {ts : List Re} {KL : List Kd} (hT : Trees (Off tb kv) W ts KL) (hgr : GrowK W w5 kv v') : Trees (Off tb v') w5 ts KL := by
  have h1 : Trees (fun g => Off tb kv g ∧ g < W.heap.size) W ts KL := hT.mono fun g hg h => ⟨h, hg⟩
  have h2 := h1.move (hgr.moves fun g h => h.1.2)
  refine h2.mono fun g _ h => ⟨h.1.1, fun e => ?_⟩
  rcases hgr.2 g e.symm with e1 | e1
  · exact h.1.2 e1.symm
  · have := h.2; omega
theorem trees_set {tb : Nat} {v : Value} {w : World} {ts : List Re} {KL : List Kd} (hT : Trees (Off tb v) w ts KL) (o : Nat) (x : Value) : Trees (Off tb v) (w.setCell ⟨tb, o, none⟩ x) ts KL := by
  have ho : Only tb w (w.setCell ⟨tb, o, none⟩ x) := (Only.refl tb w).setCell o x
  exact hT.move ⟨ho.2.2.2.1, fun g _ hg hb => ho.cell hb (by have := hg.1; omega)⟩
theorem ownK_set {base tb : Nat} {v : Value} {w : World} {KL : List Kd} (h : OwnK base v KL w) (hb : tb < base) (o : Nat) (x : Value) : OwnK base v KL (w.setCell ⟨tb, o, none⟩ x) := by
  have ho : Only tb w (w.setCell ⟨tb, o, none⟩ x) := (Only.refl tb w).setCell o x
  refine World.ownsRow.kept h (row := some tb) ⟨ho.1, ho.2.1, ho.2.2.1, ho.2.2.2.1, fun k hk hn => ho.2.2.2.2 k hk (fun e => hn (by rw [e]))⟩ ?_
  cases hv : v.ownBlock with
  | none => exact .inl rfl
  | some g => exact .inr (by have := ownK_blk h hv; simp; omega)
def ReadIn (L : List Cl) (f ar tb : Nat) (k : Int) (L0 : List Cl) (w : World) (x y : Value) (wr : World) : Prop :=
  ∃ (ts : List Re) (KL : List Kd) (ka : Option Addr) (kn kc : Nat) (m pos : Nat), x = .int .i64 pos ∧ y = .int .i64 m ∧ pos ≤ L.length ∧ L.length - pos ≤ f ∧ SoFar ar f L0 ts m (L.drop pos) ∧ ts.length + m = ar ∧ (ts ≠ [] ∨ (Value.slice ka kn kc) = .slice none 0 0) ∧
    Mut wr tb [.int .i64 k, .int .i64 0, .slice ka kn kc] ∧ Mut wr w.heap.size [.int .i64 0, .int .i64 0, .slice none 0 0] ∧ OwnK (tb + 1) (.slice ka kn kc) KL wr ∧ Trees (Off tb (.slice ka kn kc)) wr ts KL ∧ Below w.heap.size w wr
set_option maxRecDepth 100000 in
set_option maxHeartbeats 6400000 in
theorem s_read_inner (f : Nat) (b off cap at0 : Nat) (L : List Cl) (k : Int) (w : World) (hn : L.length ≤ 8589934592) (hat : at0 < L.length) (hf : L.length - at0 ≤ f + 1) (hR : RowQ (some ⟨b, off, none⟩) L w) (hb : b < w.heap.size)
    (c0 : w.cell? ⟨b, off + at0 * 2, none⟩ = some (.int .i64 k)) (c1 : w.cell? ⟨b, off + at0 * 2 + 1, none⟩ = some (.int .i64 0)) (hk : k = 5 ∨ k = 6 ∨ k = 7)
    (IH : Hid (∀ (pos : Nat) (w : World), pos ≤ L.length → L.length - pos ≤ f → RowQ (some ⟨b, off, none⟩) L w → Calls Try.prog 119 #[.slice (some ⟨b, off, none⟩) L.length cap, .int .i64 pos] w (ReadP L.length (rd f (L.drop pos)) w))) :
    Calls Try.prog 119 #[.slice (some ⟨b, off, none⟩) L.length cap, .int .i64 at0] w (ReadP L.length (rd (f + 1) ((k, 0) :: L.drop (at0 + 1))) w) := by
  have hg : gcB k 0 = true := by rcases hk with rfl | rfl | rfl <;> rfl
  have h : ¬ ((at0 : Int) ≥ (L.length : Int)) := by omega
  have h' : (at0 : Int) < (L.length : Int) := by omega
  rw [rd_rdn f (L.drop (at0 + 1)) hg]
  have s1 := hide (fun w => s_arity k w)
  rw [arI_good hg] at s1
  have n0 : ¬ b = w.heap.size := by omega
  have n1 : ¬ b = w.heap.size + 1 := by omega
  have e3 : (k == 3) = false := by rcases hk with rfl | rfl | rfl <;> rfl
  have e3' : (k != 3) = true := by rcases hk with rfl | rfl | rfl <;> rfl
  have har : arN k = 1 ∨ arN k = 2 := by rcases hk with rfl | rfl | rfl <;> decide
  have MK := hide (fun (ts : List Re) (hl : ts.length = arN k) => mkT_kind (n := 0) hg hl)
  generalize hNN : arN k = ar at *
  replace hNN := hide hNN
  have ha : ¬ ((ar : Int) < 0) := by omega
  clear hk hg
  go_enter Try.func119, Try.ntmps119
  go_wp2_with fail
  refine (s1.out _).mono ?_
  rintro e w1 ⟨rfl, rfl⟩
  go_wp2_with fail
  go_loopw [1, 7] (fun x y wr => ReadIn L f ar (w.heap.size + 1 + 1) k (L.drop (at0 + 1)) w x y wr) (fun _ y _ => (intOf y).toNat)
  case atStart =>
    refine ⟨[], [], none, 0, 0, ar, at0 + 1, by go_num, rfl, by omega, by omega, SoFar.start _ _ _, by simp, .inr rfl, ?_, ((Mut.new w _ _).alloc _).alloc _, ?_, trivial, below_box3 (Below.refl _ _)⟩
    · simpa using Mut.new ((w.alloc (.cells #[.int .i64 0, .int .i64 0, .slice none 0 0] 140)).alloc (.cells #[.int .i64 k, .int .i64 0] 109)) #[.int .i64 k, .int .i64 0, .slice none 0 0] 140
    · exact ownK_nil _ _
  case round =>
    obtain ⟨ts, KL, ka, kn, kc, m, pos, rfl, rfl, hp1, hp2, hso, hsum, hnil, Mt, Mr, ho, hT, hbw⟩ := hrel
    replace hso := hide hso
    replace hnil := hide hnil
    replace hT := hide hT
    clear s1 c0 c1
    cases m with
    | zero =>
      have u0 := Mt.2.1 0 _ rfl
      have u1 := Mt.2.1 1 _ rfl
      have u2 := Mt.2.1 2 _ rfl
      have v0 := Mr.2.1 0 _ rfl
      have v1 := Mr.2.1 1 _ rfl
      have v2 := Mr.2.1 2 _ rfl
      have f0 := Mr.2.2 0 (by simp)
      have f1 := Mr.2.2 1 (by simp)
      have f2 := Mr.2.2 2 (by simp)
      have ltr := Mr.1
      clear Mt Mr
      go_wp2_with fail
      refine bodyPost_ret (v := .tuple #[.agg #[.int .i64 k, .int .i64 0, .slice ka kn kc], .int .i64 pos]) (by simp [results, Try.results119, go_sem, v0, v1, v2]) rfl ?_
      have hl : ts.length = ar := by omega
      rw [hso.out.done]
      show ReadYes (mkT k 0 ts) ((L.length : Int) - ((L.drop pos).length : Int)) w _ _
      obtain ⟨⟨k1, k2, k3⟩, e1, hK⟩ := kids_mk k 0 (S' := fun g => w.heap.size < g) (by rw [hNN.out]; exact hl) hT.out ho (by rcases hnil.out with h | h <;> simp_all) (fun g _ hg => by have := hg.1; omega) (fun g hg => by have := (ownK_blk ho hg).1; omega)
      simp only [Value.slice.injEq] at e1
      obtain ⟨rfl, rfl, rfl⟩ := e1
      obtain ⟨m1, m2⟩ := MK.out ts hl
      have hon : Only w.heap.size wr (((wr.setCell ⟨w.heap.size, 0, none⟩ (.int .i64 k)).setCell ⟨w.heap.size, 1, none⟩ (.int .i64 0)).setCell ⟨w.heap.size, 2, none⟩ (.slice ka kn kc)) := (((Only.refl _ _).setCell _ _).setCell _ _).setCell _ _
      have hK2 := Kids.move (w' := ((wr.setCell ⟨w.heap.size, 0, none⟩ (.int .i64 k)).setCell ⟨w.heap.size, 1, none⟩ (.int .i64 0)).setCell ⟨w.heap.size, 2, none⟩ (.slice ka kn kc)) ⟨hon.2.2.2.1, fun g _ hg hb => hon.cell hb (by omega)⟩ _ _ hK
      refine ⟨(ka, kn, kc), ?_, Kids.mono (fun g _ hg => by omega) _ _ hK2, ((hbw.setCell (Nat.le_refl _) _).setCell (Nat.le_refl _) _).setCell (Nat.le_refl _) _⟩
      rw [m1, m2]
      have : (L.length : Int) - ((L.drop pos).length : Int) = pos := by rw [List.length_drop]; omega
      rw [this]
    | succ m =>
      have hm1 : ((m + 1 : Nat) : Int) > 0 := by omega
      have hm2 : m + 1 ≤ 2 := by omega
      have I1 := hide (IH.out pos)
      have ltt := Mt.1
      have ltr := Mr.1
      cases hx : rd f (L.drop pos) with
      | none =>
        rw [hx] at I1
        replace hx := hide hx
        go_wp2_with fail
        refine (I1.out _ hp1 hp2 (hR.below hbw)).mono ?_
        rintro e w2 ⟨rfl, b2⟩
        have Mr2 := (Mr.below b2).alloc (.cells #[.int .i64 0, .int .i64 0, .slice none 0 0] 140)
        have v0 := Mr2.2.1 0 _ rfl
        have v1 := Mr2.2.1 1 _ rfl
        have v2 := Mr2.2.1 2 _ rfl
        have f0 := Mr2.2.2 0 (by simp)
        have f1 := Mr2.2.2 1 (by simp)
        have f2 := Mr2.2.2 2 (by simp)
        have d2 := hbw.trans (b2.mono hbw.size)
        clear Mr2 Mr Mt b2
        go_wp2_with fail
        refine bodyPost_ret (v := .tuple #[.agg #[.int .i64 0, .int .i64 0, .slice none 0 0], .int .i64 0]) (by simp [results, Try.results119, go_sem, v0, v1, v2]) rfl ?_
        rw [hso.out.no hx.out]
        exact ⟨rfl, (((d2.alloc d2.size _).setCell (Nat.le_refl _) _).setCell (Nat.le_refl _) _).setCell (Nat.le_refl _) _⟩
      | some x =>
        obtain ⟨t, R1⟩ := x
        rw [hx] at I1
        have hlen := rd_len hx
        rw [List.length_drop] at hlen
        have hpos := t.cells_pos
        have hdr0 := rd_drop hx
        rw [List.drop_drop, List.length_drop, show pos + (L.length - pos - R1.length) = L.length - R1.length by omega] at hdr0
        have hso2 := hide (hso.out.step hx)
        have hdr := hide hdr0
        clear hdr0
        have hne : (((L.length : Int) - (R1.length : Int)) == 0) = false := by
          have : (L.length : Int) - (R1.length : Int) ≠ 0 := by omega
          simpa using this
        clear hx hso
        go_wp2_with fail
        refine (I1.out _ hp1 hp2 (hR.below hbw)).mono ?_
        rintro e w2 ⟨⟨x1, x2', x3⟩, rfl, hKx, b2⟩
        have d2 := hbw.trans (b2.mono hbw.size)
        replace hKx := hide hKx
        generalize hnum : t.num = tn
        generalize hkind : t.kind = tk
        replace hnum := hide hnum
        replace hkind := hide hkind
        have Mt2 := (Mt.below b2).alloc (.cells #[.int .i64 tk, .int .i64 tn, .slice x1 x2' x3] 140)
        have u2 := Mt2.2.1 2 _ rfl
        have Mt3 := Mt2.alloc (.cells #[.int .i64 tk, .int .i64 tn, .slice x1 x2' x3] 140)
        have hb3 : Below w2.heap.size w2 ((w2.alloc (.cells #[.int .i64 tk, .int .i64 tn, .slice x1 x2' x3] 140)).alloc (.cells #[.int .i64 tk, .int .i64 tn, .slice x1 x2' x3] 140)) := below_box2 (Below.refl _ _)
        have hO3 := ownK_below (ownK_below ho b2) hb3
        have hM3 : RowK (some ⟨w2.heap.size + 1, 0, none⟩) [(tk, tn, x1, x2', x3)] ((w2.alloc (.cells #[.int .i64 tk, .int .i64 tn, .slice x1 x2' x3] 140)).alloc (.cells #[.int .i64 tk, .int .i64 tn, .slice x1 x2' x3] 140)) := by
          have M := Mut.new (w2.alloc (.cells #[.int .i64 tk, .int .i64 tn, .slice x1 x2' x3] 140)) #[.int .i64 tk, .int .i64 tn, .slice x1 x2' x3] 140
          rw [show (w2.alloc (.cells #[.int .i64 tk, .int .i64 tn, .slice x1 x2' x3] 140)).heap.size = w2.heap.size + 1 by simp] at M
          exact RowK.one M.1 (M.2.1 0 _ rfl) (M.2.1 1 _ rfl) (M.2.1 2 _ rfl)
        have hKL : KL.length ≤ 2 := by have := hT.out.len; omega
        have hsz2 := b2.size
        have hW3 : w.heap.size + 1 + 1 + 1 ≤ ((w2.alloc (.cells #[.int .i64 tk, .int .i64 tn, .slice x1 x2' x3] 140)).alloc (.cells #[.int .i64 tk, .int .i64 tn, .slice x1 x2' x3] 140)).heap.size := by simp; omega
        have b2h := hide b2
        replace hsum := hide hsum
        replace hlen := hide hlen
        replace Mt3 := hide Mt3
        replace hb3 := hide hb3
        replace hO3 := hide hO3
        replace hM3 := hide hM3
        replace hW3 := hide hW3
        have hKL := hide (show KL.length ≤ 8589934592 by omega)
        replace Mr := hide Mr
        replace Mt := hide Mt
        have hp := hide (And.intro hp1 hp2)
        replace har := hide har
        clear Mt2 b2 hsz2 hp1 hp2 I1 IH MK hb hat hf ltt ltr hm1 ha h h'
        go_wp2_with (first | (at_builtin; refine wpList_app1K rfl _ _ rfl (w.heap.size + 1 + 1 + 1) (.slice ka kn kc) KL rfl hO3.out (w2.heap.size + 1) (tk, tn, x1, x2', x3) _ rfl hM3.out hKL.out hW3.out ?_))
        intro v' w5 hown' hgr
        obtain ⟨va, vc, rfl, _, _⟩ := ownK_row hown'
        have hb5 := hgr.below hO3.out hW3.out
        have Mt5 := Mt3.out.base (Nat.lt_succ_self _) hb5
        have x2 := Mt5.2.1 2 _ rfl
        have y2 := Mt5.2.2 2 (by simp)
        replace Mt5 := hide Mt5
        replace hb5 := hide hb5
        go_wp2_with fail
        have hsz2 := b2h.out.size
        have ltr := Mr.out.1
        have ltt := Mt.out.1
        have hsumo := hsum.out
        have hleno := hlen.out
        have hpo := hp.out
        have d3 := d2.trans (hb3.out.mono d2.size)
        have d5 := d3.trans (hb5.out.mono (by omega))
        have hTn : Trees (Off (w.heap.size + 1 + 1) (.slice ka kn kc)) ((w2.alloc (.cells #[.int .i64 tk, .int .i64 tn, .slice x1 x2' x3] 140)).alloc (.cells #[.int .i64 tk, .int .i64 tn, .slice x1 x2' x3] 140)) (ts ++ [t]) (KL ++ [(tk, tn, x1, x2', x3)]) := by
          have hK3 := (hKx.out.below hb3.out)
          have hK4 := Kids.mono (S' := Off (w.heap.size + 1 + 1) (.slice ka kn kc)) (fun g _ hg => ⟨by omega, fun e => by have := (ownK_blk ho e.symm).2; omega⟩) _ _ hK3
          have := (hT.out.move (moves_below (below_step b2h.out hb3.out))).snoc hK4
          rw [hkind.out, hnum.out] at this
          exact this
        refine ⟨⟨ts ++ [t], KL ++ [(tk, tn, x1, x2', x3)], va, _, vc, m, L.length - R1.length, by go_num, by go_num, by omega, by omega, ?_, by simp; omega, .inl (by simp), ?_, ?_, ownK_set hown' (by omega) _ _, trees_set (trees_grow hTn hgr) _ _, ?_⟩, by simp [intOf]⟩
        · rw [← hdr.out]; exact hso2.out
        · have := Mt5.out.set 2 (.slice va (KL.length + 1) vc)
          simpa using this
        · exact (((Mr.out.below (below_step b2h.out hb3.out)).base (by omega) hb5.out)).other (by omega) _ _
        · exact d5.setCell (by simp; omega) _
theorem s_read (L : List Cl) (b off cap : Nat) (hn : L.length ≤ 8589934592) (f : Nat) : ∀ (pos : Nat) (w : World), pos ≤ L.length → L.length - pos ≤ f → RowQ (some ⟨b, off, none⟩) L w →
    Calls Try.prog 119 #[.slice (some ⟨b, off, none⟩) L.length cap, .int .i64 pos] w (ReadP L.length (rd f (L.drop pos)) w) := by
  induction f with
  | zero =>
    intro pos w h1 h2 _
    obtain rfl : pos = L.length := by omega
    exact s_read_end _ _ _ _
  | succ f ih =>
    intro pos w h1 h2 hR
    by_cases he : pos = L.length
    · subst he
      rw [List.drop_length]
      exact s_read_end _ _ _ _
    · have hlt : pos < L.length := by omega
      obtain ⟨b', off', ea, hb, c0, c1⟩ := hR pos hlt
      simp only [Option.some.injEq, Addr.mk.injEq, and_true] at ea
      obtain ⟨rfl, rfl⟩ := ea
      rw [List.drop_eq_getElem_cons hlt, ← qAt_eq hlt]
      generalize qAt L pos = c at c0 c1 ⊢
      obtain ⟨k, n⟩ := c
      cases hg : gcB k n with
      | false => rw [rd_bad hg]; exact s_read_bad b off L.length cap pos k n w hlt hb c0 c1 hg
      | true =>
        by_cases ha : arN k = 0
        · rw [rd_rdn f _ hg, ha]
          show Calls Try.prog 119 #[.slice (some ⟨b, off, none⟩) L.length cap, .int .i64 pos] w (ReadYes (mkT k n []) ((L.length : Int) - ((L.drop (pos + 1)).length : Int)) w)
          rw [show (L.length : Int) - ((L.drop (pos + 1)).length : Int) = (pos : Int) + 1 by rw [List.length_drop]; omega]
          exact s_read_leaf b off L.length cap pos k n w hn hlt hb c0 c1 hg ha
        · have hk : k = 5 ∨ k = 6 ∨ k = 7 := by
            unfold arN at ha
            split at ha
            · omega
            · split at ha
              · omega
              · exact absurd rfl ha
          have n0 := gcB_zero hg (by omega)
          subst n0
          exact s_read_inner f b off cap pos L k w hn hlt (by omega) hR hb c0 c1 hk ih
def TreeP : Option Re → World → Ending → World → Prop
  | none => fun w e w' => ∃ (x y : Int) (k : Option Addr × Nat × Nat), e = .returned (.tuple #[.agg #[.int .i64 x, .int .i64 y, .slice k.1 k.2.1 k.2.2], .bool false]) ∧ Below w.heap.size w w'
  | some t => fun w e w' => ∃ k : Option Addr × Nat × Nat, e = .returned (.tuple #[.agg #[.int .i64 t.kind, .int .i64 t.num, .slice k.1 k.2.1 k.2.2], .bool true]) ∧ Kids (fun g => w.heap.size ≤ g) w' t k ∧ Below w.heap.size w w'
set_option maxRecDepth 100000 in
set_option maxHeartbeats 3200000 in
theorem s_tree (L : List Cl) (b off cap : Nat) (w : World) (hn : L.length ≤ 8589934592) (hR : RowQ (some ⟨b, off, none⟩) L w) :
    Calls Try.prog 109 #[.slice (some ⟨b, off, none⟩) L.length cap] w (TreeP (rg L) w) := by
  by_cases h30 : L.length ≤ 30
  · have h30' : ¬ ((L.length : Int) > 30) := by omega
    have S1 : Hid (∀ w, RowQ (some ⟨b, off, none⟩) L w → Calls Try.prog 119 #[.slice (some ⟨b, off, none⟩) L.length cap, .int .i64 0] w (ReadP L.length (rd L.length L) w)) := fun w hR => s_read L b off cap hn L.length 0 w (by omega) (by omega) hR
    cases h1 : rd L.length L with
    | none =>
      rw [show rg L = none from by simp [rg, h30, h1]]
      rw [h1] at S1
      show Calls Try.prog 109 #[.slice (some ⟨b, off, none⟩) L.length cap] w fun e w' => ∃ (x y : Int) (k : Option Addr × Nat × Nat), e = .returned (.tuple #[.agg #[.int .i64 x, .int .i64 y, .slice k.1 k.2.1 k.2.2], .bool false]) ∧ Below w.heap.size w w'
      clear h1
      go_enter Try.func109, Try.ntmps109
      go_wp2_with fail
      refine (S1.out _ (hR.below (below_box (Below.refl _ _)))).mono ?_
      rintro e w1 ⟨rfl, b1⟩
      have Mr := ((Mut.new w #[.int .i64 0, .int .i64 0, .slice none 0 0] 140).below b1).alloc (.cells #[.int .i64 0, .int .i64 0, .slice none 0 0] 140)
      have v0 := Mr.2.1 0 _ rfl
      have v1 := Mr.2.1 1 _ rfl
      have v2 := Mr.2.1 2 _ rfl
      have f0 := Mr.2.2 0 (by simp)
      have f1 := Mr.2.2 1 (by simp)
      have f2 := Mr.2.2 2 (by simp)
      have d1 := below_box b1
      have d2 := d1.alloc d1.size (.cells #[.int .i64 0, .int .i64 0, .slice none 0 0] 140)
      have d3 := ((d2.setCell (p := ⟨w.heap.size, 0, none⟩) (Nat.le_refl _) (.int .i64 0)).setCell (p := ⟨w.heap.size, 1, none⟩) (Nat.le_refl _) (.int .i64 0)).setCell (p := ⟨w.heap.size, 2, none⟩) (Nat.le_refl _) (.slice none 0 0)
      replace d3 := hide d3
      clear Mr d1 d2
      go_wp2_with fail
      refine bodyPost_ret (v := .tuple #[.agg #[.int .i64 0, .int .i64 0, .slice none 0 0], .bool false]) (by simp [results, Try.results109, go_sem, v0, v1, v2]) rfl ?_
      exact ⟨_, _, (none, 0, 0), rfl, d3.out⟩
    | some x =>
      obtain ⟨t, R⟩ := x
      have hl := rd_len h1
      have hp := t.cells_pos
      rw [h1] at S1
      have g1 : (L.length : Int) - (R.length : Int) > 0 := by omega
      cases R with
      | nil =>
        rw [show rg L = some t from by simp [rg, h30, h1]]
        show Calls Try.prog 109 #[.slice (some ⟨b, off, none⟩) L.length cap] w fun e w' => ∃ k : Option Addr × Nat × Nat, e = .returned (.tuple #[.agg #[.int .i64 t.kind, .int .i64 t.num, .slice k.1 k.2.1 k.2.2], .bool true]) ∧ Kids (fun g => w.heap.size ≤ g) w' t k ∧ Below w.heap.size w w'
        simp only [ReadP, List.length_nil, Int.natCast_zero, Int.sub_zero] at S1 g1
        have g2 : ((L.length : Int) == (L.length : Int)) = true := by simp
        clear h1 hl
        go_enter Try.func109, Try.ntmps109
        go_wp2_with fail
        refine (S1.out _ (hR.below (below_box (Below.refl _ _)))).mono ?_
        rintro e w1 ⟨⟨x1, x2, x3⟩, rfl, hK, b1⟩
        have Mr := ((Mut.new w #[.int .i64 0, .int .i64 0, .slice none 0 0] 140).below b1).alloc (.cells #[.int .i64 t.kind, .int .i64 t.num, .slice x1 x2 x3] 140)
        have v0 := Mr.2.1 0 _ rfl
        have v1 := Mr.2.1 1 _ rfl
        have v2 := Mr.2.1 2 _ rfl
        have f0 := Mr.2.2 0 (by simp)
        have f1 := Mr.2.2 1 (by simp)
        have f2 := Mr.2.2 2 (by simp)
        have d1 := below_box b1
        have d2 := d1.alloc d1.size (.cells #[.int .i64 t.kind, .int .i64 t.num, .slice x1 x2 x3] 140)
        have d3 := ((d2.setCell (p := ⟨w.heap.size, 0, none⟩) (Nat.le_refl _) (.int .i64 t.kind)).setCell (p := ⟨w.heap.size, 1, none⟩) (Nat.le_refl _) (.int .i64 t.num)).setCell (p := ⟨w.heap.size, 2, none⟩) (Nat.le_refl _) (.slice x1 x2 x3)
        replace d3 := hide d3
        clear Mr d1 d2
        replace hK := hide hK
        go_wp2_with fail
        refine bodyPost_ret (v := .tuple #[.agg #[.int .i64 t.kind, .int .i64 t.num, .slice x1 x2 x3], .bool true]) (by simp [results, Try.results109, go_sem, v0, v1, v2]) rfl ?_
        refine ⟨(x1, x2, x3), rfl, ?_, d3.out⟩
        have hon : Only w.heap.size (w1.alloc (.cells #[.int .i64 t.kind, .int .i64 t.num, .slice x1 x2 x3] 140)) ((((w1.alloc (.cells #[.int .i64 t.kind, .int .i64 t.num, .slice x1 x2 x3] 140)).setCell ⟨w.heap.size, 0, none⟩ (.int .i64 t.kind)).setCell ⟨w.heap.size, 1, none⟩ (.int .i64 t.num)).setCell ⟨w.heap.size, 2, none⟩ (.slice x1 x2 x3)) := (((Only.refl _ _).setCell _ _).setCell _ _).setCell _ _
        have hK1 := Kids.mono (S' := fun g => w.heap.size < g) (fun g _ hg => by simp at hg; omega) _ _ (hK.out.below (below_box (o := .cells #[.int .i64 t.kind, .int .i64 t.num, .slice x1 x2 x3] 140) (Below.refl _ _)))
        exact Kids.mono (fun g _ hg => by omega) _ _ (Kids.move ⟨hon.2.2.2.1, fun g _ hg hb => hon.cell hb (by omega)⟩ _ _ hK1)
      | cons c R =>
        rw [show rg L = none from by simp [rg, h30, h1]]
        show Calls Try.prog 109 #[.slice (some ⟨b, off, none⟩) L.length cap] w fun e w' => ∃ (x y : Int) (k : Option Addr × Nat × Nat), e = .returned (.tuple #[.agg #[.int .i64 x, .int .i64 y, .slice k.1 k.2.1 k.2.2], .bool false]) ∧ Below w.heap.size w w'
        have g2 : ((L.length : Int) - ((c :: R).length : Int) == (L.length : Int)) = false := by
          have : (L.length : Int) - ((c :: R).length : Int) ≠ (L.length : Int) := by simp only [List.length_cons]; omega
          simpa using this
        simp only [ReadP] at S1
        generalize (L.length : Int) - ((c :: R).length : Int) = en at *
        clear h1 hl
        go_enter Try.func109, Try.ntmps109
        go_wp2_with fail
        refine (S1.out _ (hR.below (below_box (Below.refl _ _)))).mono ?_
        rintro e w1 ⟨⟨x1, x2, x3⟩, rfl, _, b1⟩
        have Mr := ((Mut.new w #[.int .i64 0, .int .i64 0, .slice none 0 0] 140).below b1).alloc (.cells #[.int .i64 t.kind, .int .i64 t.num, .slice x1 x2 x3] 140)
        have v0 := Mr.2.1 0 _ rfl
        have v1 := Mr.2.1 1 _ rfl
        have v2 := Mr.2.1 2 _ rfl
        have f0 := Mr.2.2 0 (by simp)
        have f1 := Mr.2.2 1 (by simp)
        have f2 := Mr.2.2 2 (by simp)
        have d1 := below_box b1
        have d2 := d1.alloc d1.size (.cells #[.int .i64 t.kind, .int .i64 t.num, .slice x1 x2 x3] 140)
        have d3 := ((d2.setCell (p := ⟨w.heap.size, 0, none⟩) (Nat.le_refl _) (.int .i64 t.kind)).setCell (p := ⟨w.heap.size, 1, none⟩) (Nat.le_refl _) (.int .i64 t.num)).setCell (p := ⟨w.heap.size, 2, none⟩) (Nat.le_refl _) (.slice x1 x2 x3)
        replace d3 := hide d3
        clear Mr d1 d2
        go_wp2_with fail
        refine bodyPost_ret (v := .tuple #[.agg #[.int .i64 t.kind, .int .i64 t.num, .slice x1 x2 x3], .bool false]) (by simp [results, Try.results109, go_sem, v0, v1, v2]) rfl ?_
        exact ⟨_, _, (x1, x2, x3), rfl, d3.out⟩
  · rw [show rg L = none from by simp [rg, h30]]
    show Calls Try.prog 109 #[.slice (some ⟨b, off, none⟩) L.length cap] w fun e w' => ∃ (x y : Int) (k : Option Addr × Nat × Nat), e = .returned (.tuple #[.agg #[.int .i64 x, .int .i64 y, .slice k.1 k.2.1 k.2.2], .bool false]) ∧ Below w.heap.size w w'
    have h30' : (L.length : Int) > 30 := by omega
    go_enter Try.func109, Try.ntmps109
    go_wp2_with fail
    refine bodyPost_ret (v := .tuple #[.agg #[.int .i64 0, .int .i64 0, .slice none 0 0], .bool false]) (by simp [results, Try.results109, go_sem]) rfl ?_
    exact ⟨_, _, (none, 0, 0), rfl, below_box (Below.refl _ _)⟩
end Go.Proofs.Ytflakkbodbnndaa
