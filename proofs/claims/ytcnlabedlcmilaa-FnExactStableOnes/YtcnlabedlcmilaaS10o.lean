/- All stable ones, by the specification. -/
import Derived.Test.YtcnlabedlcmilaaS10c
import Derived.Test.YtcnlabedlcmilaaLsL10
import Derived.Deep.RegionHeld3
import Derived.Deep.RegionLaw
namespace Go.Proofs.Ytcnlabedlcmilaa
open Go.RowKit

def vcz (N : Nat) (L : List El) : List (List Int) := L.map (fun e => lsI N e.f)
theorem vcz_app (N : Nat) (L : List El) (e : El) : vcz N (L ++ [e]) = vcz N L ++ [lsI N e.f] := by simp [vcz]
theorem vcz_len (N : Nat) (L : List El) : (vcz N L).length = L.length := by simp [vcz]
theorem lsI_self : ∀ (C : List Int), lsI C.length (fun i => C.getD i 0) = C := by
  intro C
  apply List.ext_getElem
  · rw [lsI_len]
  · intro i h1 h2
    simp [lsI, h2]
theorem rowN_int {a : Option Addr} {C : List Int} {w : World} (h : RowN .i64 a C w) : RowInt a C.length (fun i => C.getD i 0) w := h
theorem srcO_grown {w w' : World} {r : Option Nat} {b : Nat} {M : List Int} {c : Nat} (h : SrcN .i64 (some ⟨b, 0, none⟩) M c w) (gr : w.grownBy w' r) (hb : b < w.heap.size) (hn : r ≠ some b) : SrcN .i64 (some ⟨b, 0, none⟩) M c w' := by
  refine ⟨fun i hi => ?_, .inr ⟨_, _, rfl⟩⟩
  obtain ⟨b', off, ha, hlt, h0⟩ := h.1 i hi
  have e := ha
  simp only [Option.some.injEq, Addr.mk.injEq, and_true] at e
  obtain ⟨rfl, rfl⟩ := e
  exact ⟨b, 0, rfl, Nat.lt_of_lt_of_le hlt gr.size, (World.cell?_of_block (w := w) (gr.block b hb (fun e => hn e.symm))).trans h0⟩
theorem SrcN.onlyP {P : Nat → Prop} {k : IntKind} {a : Option Addr} {M : List Int} {c : Nat} {w w' : World} (h : SrcN k a M c w) (on : OnlyP P w w') (hn : ∀ b off, a = some ⟨b, off, none⟩ → ¬ P b) : SrcN k a M c w' := by
  refine ⟨fun i hi => ?_, h.2⟩
  obtain ⟨b, off, ha, hlt, h0⟩ := h.1 i hi
  exact ⟨b, off, ha, Nat.lt_of_lt_of_le hlt on.2.2.2.1, (on.cell hlt (hn b off ha)).trans h0⟩
theorem srcI1o (w : World) (v : Int) (t : TypeId) : SrcN .i64 (some ⟨w.heap.size, 0, none⟩) [v] 1 (w.alloc (.cells #[.int .i64 v] t)) :=
  ⟨fun i hi => by
    have : i = 0 := by simpa using hi
    subst this
    exact ⟨w.heap.size, 0, rfl, by simp, by simp [go_sem]⟩, .inr ⟨_, _, rfl⟩⟩
/-- What l10Ones leaves. -/
def OnO (N : Nat) (U : Nat → Pl) (base : Nat) (v : Value) (L : List El) (d : Nat) (C : List Int) (w : World) (e : Ending) (w' : World) : Prop := ∃ v' L', e = .returned v' ∧ LsL N base v' L' w' ∧ vcz N L' = vcz N L ++ onesR N U d C ∧ OnlyP (fun b => v.ownBlock = some b) w w' ∧ (v'.ownBlock = v.ownBlock ∨ ∃ b, v'.ownBlock = some b ∧ w.heap.size ≤ b)
set_option maxRecDepth 100000 in
set_option maxHeartbeats 6400000 in
theorem s_ones0 (a : Option Addr) (N c : Nat) (U : Nat → Pl) (hG : GS N U) (C : List Int) (ga : Option Addr) (gc : Nat) (v : Value) (L : List El) (base : Nat) (w0 w : World) (hn : C.length = N) (hC : ∀ i, i < C.length → -1 ≤ C.getD i 0 ∧ C.getD i 0 < ((U i).n : Int))
    (hR : RowK3 a N U w0) (hb0 : Below w0.heap.size w0 w) (hbw : base ≤ w.heap.size) (hS : SrcN .i64 ga C gc w) (hL : LsL N base v L w) (hLn : L.length ≤ 99999) :
    Calls Try.prog 85 #[.agg #[.slice a N c], .slice ga C.length gc, v] w fun e w' => OnO N U base v L 0 C w e w' := by
  have h1 := hG.1
  have h5 := hG.2.1
  have hN5 : (N : Int) ≤ 5 := by omega
  have MX := Mut.new w #[.slice a N c] 27
  have dX : Below w.heap.size w (w.alloc (.cells #[.slice a N c] 27)) := below_box (Below.refl _ _)
  have c0 := MX.2.1 0 _ rfl
  have SC := hide (fun w R P => s_stable10 a N c U (fun i => C.getD i 0) ga gc w hG (fun i hi => hC i (by omega)) R P)
  have hRow : Hid (RowInt ga N (fun i => C.getD i 0) w) := by
    have h := rowN_int hS.1
    rw [hn] at h
    exact h
  have hdb := hb0.trans (dX.mono hb0.size)
  have hcl : lsI N (fun i => C.getD i 0) = C := by rw [← hn]; exact lsI_self C
  rw [hn]
  by_cases hs : Stb N U (fun i => C.getD i 0)
  · rw [pB_t hs] at SC
    have hone : Hid (onesR N U 0 C = [C]) := by
      show oneR N U C = [C]
      unfold oneR; rw [pB_t hs]; rfl
    clear hs hC hG
    go_enter Try.func85, Try.ntmps85
    go_wp2_with fail
    refine (SC.out _ (hR.below hdb) (hRow.out.below dX)).mono ?_
    rintro e w3 ⟨rfl, b3⟩
    have d3 := dX.trans (b3.mono dX.size)
    have hL3 := hL.below d3
    have hS3 := hS.below d3
    clear b3 c0
    have dA : Below w3.heap.size w3 (w3.alloc (.cells #[] 3)) := below_box (Below.refl _ _)
    have own0 : OwnN 3 .i64 w3.heap.size (.slice (some ⟨w3.heap.size, 0, none⟩) 0 0) [] (w3.alloc (.cells #[] 3)) := ownN_made 3 .i64 w3 [] (by simp)
    have hsA := hS3.below dA
    have hbs : w3.heap.size ≤ (w3.alloc (.cells #[] 3)).heap.size := by simp
    have hLL : Hid (([] : List Int).length + C.length ≤ 8589934593) := by show _ ≤ _; simp; omega
    have hne : Hid (C ≠ []) := by intro e; rw [e] at hn; simp at hn; omega
    have hn9 := hide hn
    have hat : Hid (∀ i, i < N → C.getD i 0 = (fun i => C.getD i 0) i) := fun i _ => rfl
    have hLx := hide (fun e he => (hL3.2.1 e he).2.1)
    have hLv := hide (fun b hb => (ownW_lt hL3.1 (k := b) hb).2)
    have hw3 := d3.size
    have hlen9 : Hid (L.length + 1 ≤ 8589934593) := by show _ ≤ _; omega
    have hvz : Hid (∀ e : El, lsI N e.f = C → vcz N (L ++ [e]) = vcz N L ++ onesR N U 0 C) := fun e he => by rw [vcz_app, he, hone.out]
    clear hn hone
    go_wp2_with (first
      | (at_builtin; refine wpList_appN numInt rfl _ _ rfl w3.heap.size (.slice (some ⟨w3.heap.size, 0, none⟩) 0 0) [] rfl own0 ga C N gc rfl hn9.out.symm hsA hLL.out (by decide) hbs ?_; intro v4 w4 own4 b4 _ _; rw [List.nil_append] at own4; obtain ⟨x, xc, hv4, hx, hxc, hOx⟩ := own_outI own4 hne.out; rw [hn9.out] at hv4 hxc hOx; subst hv4; have D4 := dA.trans b4; have hL4 := hL3.below D4; have dC : Below w4.heap.size w4 (w4.alloc (.cells #[.slice (some ⟨x, 0, none⟩) N xc] 31)) := below_box (Below.refl _ _); have hLC := hL4.below dC; have hOC := hOx.below dC; have RC := RowW.mut (Mut.new w4 #[.slice (some ⟨x, 0, none⟩) N xc] 31); have hbC : base ≤ (w4.alloc (.cells #[.slice (some ⟨x, 0, none⟩) N xc] 31)).heap.size := Nat.le_trans (Nat.le_trans hbw (Nat.le_trans hw3 D4.size)) dC.size; have h1c : Hid (∀ u ∈ [Value.slice (some ⟨x, 0, none⟩) N xc], u.oneCell' = true) := fun u hu => by rw [List.mem_singleton.1 hu]; rfl)
      | (at_builtin; have hq := hLC; refine wpList_appW aggLst rfl _ _ rfl base v L.length (L.map (elc N)) rfl hLC.1 w4.heap.size 0 1 1 [.slice (some ⟨x, 0, none⟩) N xc] rfl rfl RC h1c.out hlen9.out (by decide) hbC ?_; intro v9 w9 own9 b9 gr9 ob9))
    have hL9 := hLC.push (f := fun i => C.getD i 0) (cap := xc) (by omega) hOC (fun e he => by have := hLx.out e he; omega) (fun e => by have := hLv.out x e; omega) own9 gr9 ob9
    have hEl := hide (hvz.out ⟨x, xc, fun i => C.getD i 0⟩ hcl)
    have oA : OnlyP (fun b => v.ownBlock = some b) w (w4.alloc (.cells #[.slice (some ⟨x, 0, none⟩) N xc] 31)) := OnlyP.of_below ((d3.trans (D4.mono d3.size)).trans (dC.mono (Nat.le_trans d3.size D4.size)))
    have o9 := oA.trans (OnlyP.of_grown gr9 (fun k hk => hk))
    have ob : v9.ownBlock = v.ownBlock ∨ ∃ b, v9.ownBlock = some b ∧ w.heap.size ≤ b := by
      rcases ob9 with e | e
      · exact .inl e
      · exact .inr ⟨_, e, Nat.le_trans (Nat.le_trans hw3 D4.size) dC.size⟩
    clear own9 gr9 ob9 b9 hLC hOC RC oA
    generalize L ++ [⟨x, xc, fun i => C.getD i 0⟩] = L2 at *
    go_wp2_with fail
    go_ret
    exact ⟨_, L2, rfl, hL9, hEl.out, o9, ob⟩
  · rw [pB_f hs] at SC
    have hone : Hid (onesR N U 0 C = []) := by
      show oneR N U C = []
      unfold oneR; rw [pB_f hs]; rfl
    clear hs hC hG
    go_enter Try.func85, Try.ntmps85
    go_wp2_with fail
    refine (SC.out _ (hR.below hdb) (hRow.out.below dX)).mono ?_
    rintro e w3 ⟨rfl, b3⟩
    have d3 := dX.trans (b3.mono dX.size)
    have hL3 := hL.below d3
    clear b3 c0
    go_wp2_with fail
    go_ret
    exact ⟨_, L, rfl, hL3, by rw [hone.out, List.append_nil], OnlyP.of_below d3, .inl rfl⟩
set_option maxRecDepth 100000 in
set_option maxHeartbeats 12800000 in
theorem s_ones10 (a : Option Addr) (N c : Nat) (U : Nat → Pl) (hG : GS N U) : ∀ (d : Nat) (C : List Int) (sn : Nat) (ga : Option Addr) (gc : Nat) (v : Value) (L : List El) (base : Nat) (w0 w : World), sn = C.length → C.length + d = N → (∀ i, i < C.length → -1 ≤ C.getD i 0 ∧ C.getD i 0 < ((U i).n : Int)) →
    RowK3 a N U w0 → Below w0.heap.size w0 w → w0.heap.size ≤ base → base ≤ w.heap.size → SrcN .i64 ga C gc w → (∀ b off, ga = some ⟨b, off, none⟩ → v.ownBlock ≠ some b ∧ b < w.heap.size) → LsL N base v L w → L.length + 7 ^ d ≤ 100000 →
    Calls Try.prog 85 #[.agg #[.slice a N c], .slice ga sn gc, v] w fun e w' => OnO N U base v L d C w e w' := by
  intro d
  induction d with
  | zero =>
    intro C sn ga gc v L base w0 w hsn hn hC hR hb0 h0b hbw hS hgv hL hLn
    subst hsn
    exact s_ones0 a N c U hG C ga gc v L base w0 w (by omega) hC hR hb0 hbw hS hL (by simp at hLn; omega)
  | succ d ih =>
    intro C sn ga gc v L base w0 w hsn hn hC hR hb0 h0b hbw hS hgv hL hLn
    have IH := hide ih
    clear ih
    have h5 := hG.2.1
    have hN5 : (N : Int) ≤ 5 := by omega
    have hlt : C.length < N := by omega
    have hnn : ((C.length : Int) == (N : Int)) = false := by simp; omega
    have hnn2 : ¬ ((C.length : Int) = (N : Int)) := by omega
    have hlt' : (C.length : Int) < (N : Int) := by omega
    have hm6 := (hG.low C.length hlt).1
    have hOl : Hid (∀ q, (onesP N U d C q).length ≤ q * 7 ^ d) := fun q => by
      unfold onesP
      have h := flat_len (B := 7 ^ d) (fun k : Nat => onesR N U d (C ++ [(k : Int) - 1])) (List.range q) (fun k _ => onesR_len hG d _ (by simp; omega))
      rw [List.length_range] at h
      exact h
    have hpow : 7 ^ (d + 1) = 7 * 7 ^ d := by rw [Nat.pow_succ, Nat.mul_comm]
    have hall : Hid (onesP N U d C ((U C.length).n + 1) = onesR N U (d + 1) C) := rfl
    have hsucc : Hid (∀ q, onesP N U d C (q + 1) = onesP N U d C q ++ onesR N U d (C ++ [(q : Int) - 1])) := fun q => onesP_succ N U d C q
    have hz : Hid (onesP N U d C 0 = []) := onesP_zero N U d C
    obtain ⟨b1, off1, a1, c1, hab, hb1, u1, _, _⟩ := hR C.length hlt
    subst hab
    have MX := Mut.new w #[.slice (some ⟨b1, off1, none⟩) N c] 27
    have dX : Below w.heap.size w (w.alloc (.cells #[.slice (some ⟨b1, off1, none⟩) N c] 27)) := below_box (Below.refl _ _)
    have c0 := MX.2.1 0 _ rfl
    have hLX := hL.below dX
    have hsX : w.heap.size + 1 ≤ (w.alloc (.cells #[.slice (some ⟨b1, off1, none⟩) N c] 27)).heap.size := by simp
    have hvl := hide (fun k (hk : v.ownBlock = some k) => ownW_lt hL.1 hk)
    have oX : OnlyP (fun b => v.ownBlock = some b) w (w.alloc (.cells #[.slice (some ⟨b1, off1, none⟩) N c] 27)) := OnlyP.of_below dX
    have hC9 := hide hC
    rw [← hsn] at hnn hnn2 hlt'
    have hsn9 := hide hsn
    have hm9 : Hid ((U C.length).n = (U sn).n) := by show _ = _; rw [hsn]
    rw [← hsn] at u1
    have hm6' : (U sn).n ≤ 6 := by rw [hsn]; exact hm6
    clear hC hG hnn hsn hm6 hL
    generalize hmm : (U sn).n = m at *
    have hm6i : (m : Int) ≤ 6 := by omega
    generalize hbs : w.heap.size = bs at *
    go_enter Try.func85, Try.ntmps85
    go_wp2_with fail
    clear c0
    generalize w.alloc (.cells #[.slice (some ⟨b1, off1, none⟩) N c] 27) = wx at *
    go_loopw [2, 7] (fun x y wr => ∃ (q : Nat) (Lq : List El), y = .int .i64 ((q : Int) - 1) ∧ q ≤ m + 1 ∧ LsL N base x Lq wr ∧ Hid (vcz N Lq = vcz N L ++ onesP N U d C q) ∧ Hid (x.ownBlock = v.ownBlock ∨ ∃ b, x.ownBlock = some b ∧ bs + 1 ≤ b) ∧ OnlyP (fun b => v.ownBlock = some b) w wr ∧ Mut wr bs [.slice (some ⟨b1, off1, none⟩) N c] ∧ bs + 1 ≤ wr.heap.size) (fun _ y _ => (m + 1) - (intOf y + 1).toNat)
    case atStart => exact ⟨0, L, rfl, Nat.zero_le _, hLX, by show _ = _; rw [hz.out, List.append_nil], .inl rfl, oX, MX, hsX⟩
    case round =>
      clear hLX oX MX hsX dX
      obtain ⟨q, Lq, rfl, hq, hL, hvq, hxo, oX, MX, hsX⟩ := hrel
      have c0 := MX.2.1 0 _ rfl
      have dW : Below w0.heap.size w0 wr := hb0.trans (oX.below (fun k _ hk => Nat.le_trans h0b (hvl.out k hk).1) (by rw [hbs]; omega))
      have x2 := (dW.cell (p := ⟨b1, off1 + sn, none⟩) hb1).trans u1
      have hSr := hS.onlyP oX (fun b off hb => (hgv b off hb).1)
      by_cases hqt : q < m + 1
      · have hqt' : (q : Int) - 1 < (m : Int) := by omega
        have hql : -1 ≤ (q : Int) - 1 := by omega
        have hq7 : (q : Int) - 1 ≤ 6 := by omega
        have hLql : Hid (Lq.length + 7 ^ d ≤ 100000) := by
          have h1 := congrArg List.length hvq.out
          rw [List.length_append, vcz_len, vcz_len] at h1
          have h2 := hOl.out q
          have h3 : (q + 1) * 7 ^ d ≤ 7 * 7 ^ d := Nat.mul_le_mul_right _ (by omega)
          rw [Nat.add_mul, Nat.one_mul] at h3
          show _ ≤ _
          omega
        have hCn : Hid (∀ i, i < (C ++ [(q : Int) - 1]).length → -1 ≤ (C ++ [(q : Int) - 1]).getD i 0 ∧ (C ++ [(q : Int) - 1]).getD i 0 < ((U i).n : Int)) := fun i hi => by
          by_cases e : i < C.length
          · have h := hC9.out i e
            simp only [List.getD_eq_getElem?_getD, List.getElem?_append_left e] at h ⊢
            exact h
          · have e2 : i = C.length := by simp at hi; omega
            subst e2
            simp only [List.getD_eq_getElem?_getD, List.getElem?_append_right (Nat.le_refl _), Nat.sub_self, List.getElem?_cons_zero, Option.getD_some]
            rw [hm9.out]
            exact ⟨by omega, by omega⟩
        have hsu := hide (hsucc.out q)
        have hbx : u2.ownBlock ≠ some bs := fun e => by
          rcases hxo.out with h | ⟨b, h1, h2⟩
          · have := (hvl.out bs (by rw [← h]; exact e)).2; omega
          · rw [e] at h1; simp at h1; omega
        have hxl := hide (fun k (hk : u2.ownBlock = some k) => (ownW_lt hL.1 hk).2)
        have hbr : base ≤ wr.heap.size := Nat.le_trans hbw (by omega)
        have hbsl : bs < wr.heap.size := by omega
        have hlen8 := hide hn
        have hCl : C.length ≤ 5 := by omega
        generalize hkz : (q : Int) - 1 = kz at *
        have hkz9 := hide hkz
        clear hkz
        have dZ : Below wr.heap.size wr wr := Below.refl _ _
        have dA : Below wr.heap.size wr (wr.alloc (.cells #[] 3)) := below_box (Below.refl _ _)
        have dB2 : Below wr.heap.size wr ((wr.alloc (.cells #[] 3)).alloc (.cells #[.int .i64 kz] 3)) := below_box2 (Below.refl _ _)
        have dC : Below wr.heap.size wr ((wr.alloc (.cells #[.int .i64 kz] 3)).alloc (.cells #[] 3)) := below_box2 (Below.refl _ _)
        have ownA : OwnN 3 .i64 wr.heap.size (.slice (some ⟨wr.heap.size, 0, none⟩) 0 0) [] (wr.alloc (.cells #[] 3)) := World.ownsRow_made wr #[] 0 (Nat.le_refl _) (by decide) rfl
        have ownB := ownN_below ownA (below_box (o := (.cells #[.int .i64 kz] 3)) (Below.refl _ _))
        have ownC : OwnN 3 .i64 wr.heap.size (.slice (some ⟨wr.heap.size + 1, 0, none⟩) 0 0) [] ((wr.alloc (.cells #[.int .i64 kz] 3)).alloc (.cells #[] 3)) := by
          have := World.ownsRow_made (e := 3) (size := 1) (base := wr.heap.size) (wr.alloc (.cells #[.int .i64 kz] 3)) #[] 0 (by simp) (by decide) rfl
          unfold OwnN
          simpa [ncells] using this
        have srcA := hSr.below dA
        have srcB := hSr.below dB2
        have srcC := hSr.below dC
        have kB : SrcN .i64 (some ⟨wr.heap.size + 1, 0, none⟩) [kz] 1 ((wr.alloc (.cells #[] 3)).alloc (.cells #[.int .i64 kz] 3)) := by
          have := srcI1o (wr.alloc (.cells #[] 3)) kz 3
          simpa using this
        have kC : SrcN .i64 (some ⟨wr.heap.size, 0, none⟩) [kz] 1 ((wr.alloc (.cells #[.int .i64 kz] 3)).alloc (.cells #[] 3)) := (srcI1o wr kz 3).below (below_box (Below.refl _ _))
        have hlen1 : Hid (([] : List Int).length + C.length ≤ 8589934593) := by show _ ≤ _; simp; omega
        have hlen2 : Hid (C.length + [kz].length ≤ 8589934593) := by show _ ≤ _; simp; omega
        have kp : ∀ W : World, Below wr.heap.size wr W → W.cell? ⟨bs, 0, none⟩ = some (.slice (some ⟨b1, off1, none⟩) N c) := fun W d => (d.cell (p := ⟨bs, 0, none⟩) hbsl).trans c0
        have hkZ := kp _ dZ.drew
        have hkZA := fun o => kp _ (dZ.alloc dZ.size o)
        have hkZAd := fun o => kp _ (dZ.alloc dZ.size o).drew
        have hkZB := fun o o' => kp _ (below_box2 (o := o) (o' := o') (Below.refl _ _))
        have hkZBd := fun o o' => kp _ (below_box2 (o := o) (o' := o') (Below.refl _ _)).drew
        have hdl : Hid ((C ++ [kz]).length + d = N) := by show _ = _; have := hlen8.out; simp; omega
        clear hnn2 hvl hz hsucc hall hOl hlen8 hC9
        go_wp2_with fail
        clear x2
        go_region_held3 (fun w' => w'.cell? ⟨bs, 0, none⟩ = some (.slice (some ⟨b1, off1, none⟩) N c)) (first | with_reducible exact hkN | with_reducible exact hkS | with_reducible exact hkP | with_reducible exact hkPa _ | with_reducible exact hkZ | with_reducible exact hkZA _ | with_reducible exact hkZAd _ | with_reducible exact hkZB _ _ | with_reducible exact hkZBd _ _)
          (first
            | (go_at_call 85; refine (IH.out (C ++ [kz]) _ (some ⟨sb2, 0, none⟩) cap2 u2 Lq base w0 _ (by simp) hdl.out hCn.out hR (by first | with_reducible exact dSw | with_reducible exact dSw.drew) h0b (by first | with_reducible exact hbS | exact hbS) (by first | with_reducible exact hS2 | with_reducible exact hS2.below (Below.refl _ _).drew) hgS (by first | with_reducible exact hLS | with_reducible exact hLS.below (Below.refl _ _).drew) hLql.out).mono ?_; rintro e wN ⟨v', L', rfl, hLN, hvN, oN, hbN⟩; have oSN : OnlyP (fun b => u2.ownBlock = some b) wS wN := (by first | with_reducible exact oN | with_reducible exact (OnlyP.of_below (Below.refl _ _).drew).trans oN); have hkN := (oSN.cell (b := bs) (o := 0) hbsS hbx).trans hkS; have hbN' : v'.ownBlock = u2.ownBlock ∨ ∃ b, v'.ownBlock = some b ∧ wS.heap.size ≤ b := hbN)
            | (have hq := own1; refine step_appN numInt (by rfl) _ _ (by rfl) wr.heap.size v1 C (by rfl) (by first | with_reducible exact ownN_below own1 (below_box (Below.refl _ _)) | with_reducible exact ownN_below own1 (below_box (Below.refl _ _)).drew) (some ⟨wP.heap.size, 0, none⟩) [kz] 1 1 (by rfl) rfl (by first | with_reducible exact srcI1o wP kz 3 | with_reducible exact SrcN.below (srcI1o wP kz 3) (Below.refl _ _).drew) hlen2.out (by decide) (dP.alloc dP.size _).size ?_; intro v2 wS own2 bS2 _ _; have dS : Below wr.heap.size wr wS := (dP.alloc dP.size _).trans bS2; have hkS := kp _ dS; obtain ⟨sb2, cap2, rfl, hge2, hlt2⟩ := ownN_shape own2 (by simp); have hS2 : SrcN .i64 (some ⟨sb2, 0, none⟩) (C ++ [kz]) cap2 wS := ⟨fun i hi => ⟨sb2, 0, rfl, hlt2, by rw [Nat.zero_add]; exact ownN_at own2 hi⟩, .inr ⟨_, _, rfl⟩⟩; have hLS := hL.below dS; have dSw := dW.trans (dS.mono dW.size); have hbS := Nat.le_trans hbr dS.size; have hbsS := Nat.lt_of_lt_of_le hbsl dS.size; have hgS : ∀ b off, (some (⟨sb2, 0, none⟩ : Addr)) = some ⟨b, off, none⟩ → u2.ownBlock ≠ some b ∧ b < wS.heap.size := (fun b off he => by simp only [Option.some.injEq, Addr.mk.injEq, and_true] at he; obtain ⟨rfl, rfl⟩ := he; exact ⟨fun e => by have := hxl.out _ e; omega, hlt2⟩))
            | (have hq := srcK; refine step_appN numInt (by rfl) _ _ (by rfl) wr.heap.size v1 C (by rfl) own1 (some ⟨wr.heap.size + 1, 0, none⟩) [kz] 1 1 (by rfl) rfl srcK hlen2.out (by decide) dP.size ?_; intro v2 wS own2 bS2 _ _; have dS : Below wr.heap.size wr wS := dP.trans bS2; have hkS := kp _ dS; obtain ⟨sb2, cap2, rfl, hge2, hlt2⟩ := ownN_shape own2 (by simp); have hS2 : SrcN .i64 (some ⟨sb2, 0, none⟩) (C ++ [kz]) cap2 wS := ⟨fun i hi => ⟨sb2, 0, rfl, hlt2, by rw [Nat.zero_add]; exact ownN_at own2 hi⟩, .inr ⟨_, _, rfl⟩⟩; have hLS := hL.below dS; have dSw := dW.trans (dS.mono dW.size); have hbS := Nat.le_trans hbr dS.size; have hbsS := Nat.lt_of_lt_of_le hbsl dS.size; have hgS : ∀ b off, (some (⟨sb2, 0, none⟩ : Addr)) = some ⟨b, off, none⟩ → u2.ownBlock ≠ some b ∧ b < wS.heap.size := (fun b off he => by simp only [Option.some.injEq, Addr.mk.injEq, and_true] at he; obtain ⟨rfl, rfl⟩ := he; exact ⟨fun e => by have := hxl.out _ e; omega, hlt2⟩))
            | (have hq := srcK; refine step_appN numInt (by rfl) _ _ (by rfl) wr.heap.size v1 C (by rfl) own1 (some ⟨wr.heap.size, 0, none⟩) [kz] 1 1 (by rfl) rfl srcK hlen2.out (by decide) dP.size ?_; intro v2 wS own2 bS2 _ _; have dS : Below wr.heap.size wr wS := dP.trans bS2; have hkS := kp _ dS; obtain ⟨sb2, cap2, rfl, hge2, hlt2⟩ := ownN_shape own2 (by simp); have hS2 : SrcN .i64 (some ⟨sb2, 0, none⟩) (C ++ [kz]) cap2 wS := ⟨fun i hi => ⟨sb2, 0, rfl, hlt2, by rw [Nat.zero_add]; exact ownN_at own2 hi⟩, .inr ⟨_, _, rfl⟩⟩; have hLS := hL.below dS; have dSw := dW.trans (dS.mono dW.size); have hbS := Nat.le_trans hbr dS.size; have hbsS := Nat.lt_of_lt_of_le hbsl dS.size; have hgS : ∀ b off, (some (⟨sb2, 0, none⟩ : Addr)) = some ⟨b, off, none⟩ → u2.ownBlock ≠ some b ∧ b < wS.heap.size := (fun b off he => by simp only [Option.some.injEq, Addr.mk.injEq, and_true] at he; obtain ⟨rfl, rfl⟩ := he; exact ⟨fun e => by have := hxl.out _ e; omega, hlt2⟩))
            | (refine step_appN numInt (by rfl) _ _ (by rfl) wr.heap.size (.slice (some ⟨wr.heap.size, 0, none⟩) 0 0) [] (by rfl) (by first | with_reducible exact ownA | with_reducible exact ownN_below ownA (Below.refl _ _).drew) ga C sn gc (by rfl) hsn9.out (by first | with_reducible exact srcA | with_reducible exact SrcN.below srcA (Below.refl _ _).drew) hlen1.out (by decide) (by first | with_reducible exact dA.size | with_reducible exact dA.drew.size) ?_; intro v1 wP own1 bP gr1 _; have dP : Below wr.heap.size wr wP := (by first | with_reducible exact dA.trans bP | with_reducible exact dA.drew.trans bP); have hkP := kp _ dP; have hkPa := fun o => kp _ (dP.alloc dP.size o); have own1 : OwnN 3 .i64 wr.heap.size v1 C wP := own1)
            | (refine step_appN numInt (by rfl) _ _ (by rfl) wr.heap.size (.slice (some ⟨wr.heap.size, 0, none⟩) 0 0) [] (by rfl) (by first | with_reducible exact ownB | with_reducible exact ownN_below ownB (Below.refl _ _).drew) ga C sn gc (by rfl) hsn9.out (by first | with_reducible exact srcB | with_reducible exact SrcN.below srcB (Below.refl _ _).drew) hlen1.out (by decide) (by first | with_reducible exact dB2.size | with_reducible exact dB2.drew.size) ?_; intro v1 wP own1 bP gr1 _; have dP : Below wr.heap.size wr wP := (by first | with_reducible exact dB2.trans bP | with_reducible exact dB2.drew.trans bP); have hkP := kp _ dP; have hkPa := fun o => kp _ (dP.alloc dP.size o); have own1 : OwnN 3 .i64 wr.heap.size v1 C wP := own1; have srcK : SrcN .i64 (some ⟨wr.heap.size + 1, 0, none⟩) [kz] 1 wP := (by first | with_reducible exact srcO_grown kB gr1 (by first | (simp; done) | (simp; omega)) (by first | (simp [Value.ownBlock]; done) | (simp [Value.ownBlock]; omega)) | with_reducible exact srcO_grown (SrcN.below kB (Below.refl _ _).drew) gr1 (by first | (simp; done) | (simp; omega)) (by first | (simp [Value.ownBlock]; done) | (simp [Value.ownBlock]; omega))))
            | (refine step_appN numInt (by rfl) _ _ (by rfl) wr.heap.size (.slice (some ⟨wr.heap.size + 1, 0, none⟩) 0 0) [] (by rfl) (by first | with_reducible exact ownC | with_reducible exact ownN_below ownC (Below.refl _ _).drew) ga C sn gc (by rfl) hsn9.out (by first | with_reducible exact srcC | with_reducible exact SrcN.below srcC (Below.refl _ _).drew) hlen1.out (by decide) (by first | with_reducible exact dC.size | with_reducible exact dC.drew.size) ?_; intro v1 wP own1 bP gr1 _; have dP : Below wr.heap.size wr wP := (by first | with_reducible exact dC.trans bP | with_reducible exact dC.drew.trans bP); have hkP := kp _ dP; have hkPa := fun o => kp _ (dP.alloc dP.size o); have own1 : OwnN 3 .i64 wr.heap.size v1 C wP := own1; have srcK : SrcN .i64 (some ⟨wr.heap.size, 0, none⟩) [kz] 1 wP := (by first | with_reducible exact srcO_grown kC gr1 (by first | (simp; done) | (simp; omega)) (by first | (simp [Value.ownBlock]; done) | (simp [Value.ownBlock]; omega)) | with_reducible exact srcO_grown (SrcN.below kC (Below.refl _ _).drew) gr1 (by first | (simp; done) | (simp; omega)) (by first | (simp [Value.ownBlock]; done) | (simp [Value.ownBlock]; omega)))))
        all_goals
          have hN : Hid (vcz N L' = vcz N L ++ onesP N U d C (q + 1)) := by
            show _ = _
            rw [hvN, hvq.out, List.append_assoc, hsu.out]
          have hxN : Hid (v'.ownBlock = v.ownBlock ∨ ∃ b, v'.ownBlock = some b ∧ bs + 1 ≤ b) := by
            rcases hbN' with h | ⟨b, h1, h2⟩
            · rw [Hid, h]; exact hxo.out
            · exact .inr ⟨b, h1, by have := dS.size; omega⟩
          have oW : OnlyP (fun b => v.ownBlock = some b) w wN := by
            have o1 := oX.trans (OnlyP.of_below dS)
            refine ⟨oSN.1.trans o1.1, oSN.2.1.trans o1.2.1, oSN.2.2.1.trans o1.2.2.1, Nat.le_trans o1.2.2.2.1 oSN.2.2.2.1, fun k hk hnk => ?_⟩
            refine (oSN.2.2.2.2 k (Nat.lt_of_lt_of_le hk o1.2.2.2.1) (fun e => ?_)).trans (o1.2.2.2.2 k hk hnk)
            rcases hxo.out with h | ⟨b, h1, h2⟩
            · exact hnk (by rw [← h]; exact e)
            · rw [e] at h1; simp at h1; omega
          have MN := (MX.below dS).onlyP oSN hbx
          have hsN : bs + 1 ≤ wN.heap.size := Nat.le_trans hsX (Nat.le_trans dS.size oSN.2.2.2.1)
          clear hkN hkS hkP dP
          go_wp2_with fail
          exact ⟨⟨q + 1, L', by rw [← hkz9.out]; first | go_num | (congr 1; omega), by omega, hLN, hN, hxN, oW, MN, hsN⟩, by rw [← hkz9.out]; simp [intOf]; omega⟩
      · have hqt' : ¬ ((q : Int) - 1 < (m : Int)) := by omega
        obtain rfl : q = m + 1 := by omega
        have hE : Hid (vcz N Lq = vcz N L ++ onesR N U (d + 1) C) := by
          show _ = _
          rw [hvq.out, ← hall.out, hm9.out]
        have hxo' : Hid (u2.ownBlock = v.ownBlock ∨ ∃ b, u2.ownBlock = some b ∧ bs ≤ b) := by
          rcases hxo.out with h | ⟨b, h1, h2⟩
          · exact .inl h
          · exact .inr ⟨b, h1, by omega⟩
        go_wp2_with fail
        go_ret
        exact ⟨_, Lq, rfl, hL, hE.out, oX, by rw [hbs]; exact hxo'.out⟩
set_option maxRecDepth 100000 in
set_option maxHeartbeats 3200000 in
theorem s_stableOnesE (a : Option Addr) (N c : Nat) (U : Nat → Pl) (w : World) (hN : N ≤ 1048576) (hl : LowS N U) (hR : RowK3 a N U w) :
    Calls Try.prog 33 #[.agg #[.slice a N c]] w fun e w' => ∃ v L, e = .returned (.tuple #[v, .bool (gsB N U)]) ∧ vcz N L = soR N U ∧ LsL N w.heap.size v L w' ∧ Below w.heap.size w w' := by
  have MX := Mut.new w #[.slice a N c] 27
  have dX : Below w.heap.size w (w.alloc (.cells #[.slice a N c] 27)) := below_box (Below.refl _ _)
  have c0 := MX.2.1 0 _ rfl
  have SG := hide (fun w R => s_goodSpp a N c U w hN hl R)
  by_cases hG : GS N U
  · have eG : gsB N U = true := pB_t hG
    have eS : soR N U = onesR N U N [] := by unfold soR; rw [eG]; rfl
    rw [eG] at SG ⊢
    rw [eS]
    have h7 : Hid (([] : List El).length + 7 ^ N ≤ 100000) := by
      show 0 + 7 ^ N ≤ 100000
      have := Nat.pow_le_pow_right (n := 7) (by omega) hG.2.1
      have h5 : 7 ^ 5 = 16807 := by decide
      omega
    have ON := hide (fun w' hb => s_ones10 a N c U hG N [] 0 none 0 (.slice none 0 0) [] w.heap.size w w' rfl (by simp) (fun i hi => absurd hi (Nat.not_lt_zero _)) hR hb (Nat.le_refl _) hb.size ⟨RowN.nil _ _ _, .inl ⟨rfl, rfl, rfl⟩⟩ (fun b off h => by simp at h) (lsL_nil _ _ _) h7.out)
    clear eG eS hG hl h7
    go_enter Try.func33, Try.ntmps33
    go_wp2_with fail
    refine (SG.out _ (hR.below dX)).mono ?_
    rintro e w1 ⟨rfl, b⟩
    replace dX := dX.trans (b.mono dX.size)
    replace MX := MX.below b
    have c0 := MX.2.1 0 _ rfl
    clear b
    go_wp2_with fail
    refine (ON.out _ dX).mono ?_
    rintro e w2 ⟨v', L', rfl, hL, hv, oN, _⟩
    have d2 := dX.trans (oN.below (base := w.heap.size) (fun k _ hk => by simp [Value.ownBlock] at hk) dX.size)
    have hv' : Hid (vcz N L' = onesR N U N []) := by show _ = _; rw [hv]; rfl
    clear oN hv c0
    go_wp2_with fail
    go_ret2
    exact ⟨_, L', rfl, hv'.out, hL, d2⟩
  · have eG : gsB N U = false := pB_f hG
    have eS : soR N U = [] := by unfold soR; rw [eG]; rfl
    rw [eG] at SG ⊢
    rw [eS]
    clear hG hl eG eS
    go_enter Try.func33, Try.ntmps33
    go_wp2_with fail
    refine (SG.out _ (hR.below dX)).mono ?_
    rintro e w1 ⟨rfl, b⟩
    replace dX := dX.trans (b.mono dX.size)
    clear b
    go_wp2_with fail
    go_ret2
    exact ⟨_, [], rfl, rfl, lsL_nil _ _ _, dX⟩
end Go.Proofs.Ytcnlabedlcmilaa
