/- walkBack of the program. -/
import Derived.Test.YtcnlabedlcmilaaPlain9q
import Derived.Deep.RegionHeld3
import Derived.Deep.DeepCutAuto
import Derived.Deep.CutRange
namespace Go.Proofs.Ytcnlabedlcmilaa
open Go.RowKit
theorem keepR {w0 w' : World} {b6 bl kl vc : Nat} {va : Option Addr} {z0 z1 z2 z3 z4 z5 : Bool} {q : Nat} {pk : Nat} (h : Below w0.heap.size w0 w') (hp : b6 + 1 < w0.heap.size) (hq : bl < w0.heap.size) (k : w0.cell? ⟨b6, 0, none⟩ = some (.slice va kl vc) ∧ w0.cell? ⟨b6 + 1, 0, none⟩ = some (.bool z0) ∧ w0.cell? ⟨b6 + 1, 1, none⟩ = some (.bool z1) ∧ w0.cell? ⟨b6 + 1, 2, none⟩ = some (.bool z2) ∧ w0.cell? ⟨b6 + 1, 3, none⟩ = some (.bool z3) ∧ w0.cell? ⟨b6 + 1, 4, none⟩ = some (.bool z4) ∧ w0.cell? ⟨b6 + 1, 5, none⟩ = some (.bool z5) ∧ w0.cell? ⟨bl, 0, none⟩ = some (.int .i64 q) ∧ w0.cell? ⟨bl, 2, none⟩ = some (.func (.func 165) #[] #[.pointer (some ⟨pk, 0, none⟩)])) : w'.cell? ⟨b6, 0, none⟩ = some (.slice va kl vc) ∧ w'.cell? ⟨b6 + 1, 0, none⟩ = some (.bool z0) ∧ w'.cell? ⟨b6 + 1, 1, none⟩ = some (.bool z1) ∧ w'.cell? ⟨b6 + 1, 2, none⟩ = some (.bool z2) ∧ w'.cell? ⟨b6 + 1, 3, none⟩ = some (.bool z3) ∧ w'.cell? ⟨b6 + 1, 4, none⟩ = some (.bool z4) ∧ w'.cell? ⟨b6 + 1, 5, none⟩ = some (.bool z5) ∧ w'.cell? ⟨bl, 0, none⟩ = some (.int .i64 q) ∧ w'.cell? ⟨bl, 2, none⟩ = some (.func (.func 165) #[] #[.pointer (some ⟨pk, 0, none⟩)]) := by
  obtain ⟨k0, k1, k2, k3, k4, k5, k6, k7, k8⟩ := k
  have hp' : b6 < w0.heap.size := by omega
  exact ⟨((bcell h).1 _ _ hp').trans k0, ((bcell h).1 _ _ hp).trans k1, ((bcell h).1 _ _ hp).trans k2, ((bcell h).1 _ _ hp).trans k3, ((bcell h).1 _ _ hp).trans k4, ((bcell h).1 _ _ hp).trans k5, ((bcell h).1 _ _ hp).trans k6, ((bcell h).1 _ _ hq).trans k7, ((bcell h).1 _ _ hq).trans k8⟩
theorem keepRo {w0 w' : World} {b6 bl kl vc bb : Nat} {va : Option Addr} {z0 z1 z2 z3 z4 z5 : Bool} {q : Nat} {pk : Nat} (h : Only bb w0 w') (hp : b6 + 1 < w0.heap.size) (hq : bl < w0.heap.size) (h6 : bb < b6) (hbl : bl ≠ bb) (k : w0.cell? ⟨b6, 0, none⟩ = some (.slice va kl vc) ∧ w0.cell? ⟨b6 + 1, 0, none⟩ = some (.bool z0) ∧ w0.cell? ⟨b6 + 1, 1, none⟩ = some (.bool z1) ∧ w0.cell? ⟨b6 + 1, 2, none⟩ = some (.bool z2) ∧ w0.cell? ⟨b6 + 1, 3, none⟩ = some (.bool z3) ∧ w0.cell? ⟨b6 + 1, 4, none⟩ = some (.bool z4) ∧ w0.cell? ⟨b6 + 1, 5, none⟩ = some (.bool z5) ∧ w0.cell? ⟨bl, 0, none⟩ = some (.int .i64 q) ∧ w0.cell? ⟨bl, 2, none⟩ = some (.func (.func 165) #[] #[.pointer (some ⟨pk, 0, none⟩)])) : w'.cell? ⟨b6, 0, none⟩ = some (.slice va kl vc) ∧ w'.cell? ⟨b6 + 1, 0, none⟩ = some (.bool z0) ∧ w'.cell? ⟨b6 + 1, 1, none⟩ = some (.bool z1) ∧ w'.cell? ⟨b6 + 1, 2, none⟩ = some (.bool z2) ∧ w'.cell? ⟨b6 + 1, 3, none⟩ = some (.bool z3) ∧ w'.cell? ⟨b6 + 1, 4, none⟩ = some (.bool z4) ∧ w'.cell? ⟨b6 + 1, 5, none⟩ = some (.bool z5) ∧ w'.cell? ⟨bl, 0, none⟩ = some (.int .i64 q) ∧ w'.cell? ⟨bl, 2, none⟩ = some (.func (.func 165) #[] #[.pointer (some ⟨pk, 0, none⟩)]) := by
  obtain ⟨k0, k1, k2, k3, k4, k5, k6, k7, k8⟩ := k
  have hp' : b6 < w0.heap.size := by omega
  have n0 : b6 ≠ bb := by omega
  have n1 : b6 + 1 ≠ bb := by omega
  exact ⟨(h.cell hp' n0).trans k0, (h.cell hp n1).trans k1, (h.cell hp n1).trans k2, (h.cell hp n1).trans k3, (h.cell hp n1).trans k4, (h.cell hp n1).trans k5, (h.cell hp n1).trans k6, (h.cell hq hbl).trans k7, (h.cell hq hbl).trans k8⟩
theorem bits6 (f : Nat → Bool) : (bits 6 f).toArray = #[.bool (f 0), .bool (f 1), .bool (f 2), .bool (f 3), .bool (f 4), .bool (f 5)] := rfl
set_option maxRecDepth 100000 in
set_option maxHeartbeats 6400000 in
theorem i_walkBack (g : Int) (m : Nat) (T : Nat → Lc) (n : Nat) (f0 f1 f2 : Nat → Int) (hNA : NA g m T n f0 f1 f2) (va : Option Addr) (vc : Nat) (P : Nat → Nat) (bb bc : Nat) (w00 : World) (hw0 : w00.heap.size ≤ bb) :
    ∀ (u p : Nat) (x : Int) (s : Nat → Bool) (o : Nat → Int) (w : World), left9 s ≤ u → p < 6 → s p = false → 0 ≤ x → x < g → Below w00.heap.size w00 w → Lks9 va (lk9 f0 f1 n) f0 f1 f2 P m T bb w00 w → OutInt bb 6 6 o w →
    Calls Try.prog 104 #[.agg #[.slice va (lk9 f0 f1 n).length vc], .slice (some ⟨bb, 0, none⟩) 6 bc, .int .i64 p, .int .i64 x, .agg (bits 6 s).toArray] w (WalkP (fun x y => lab9 f0 f1 f2 x y n) T p x (fun i => if i = p then true else s i) bb o w) := by
  intro u
  induction u using Nat.strongRecOn with
  | _ u ih =>
  intro p x s o w hu hp hsp hx0 hx1 hB hL hO
  have hlf := left9_lt hp hsp
  have hE : (bits 6 s).toArray.setIfInBounds p (.bool true) = (bits 6 (fun i => if i = p then true else s i)).toArray := by
    rw [← bits_set]; simp
  have hcp : (bits 6 s).toArray[p]? = some (.bool false) := by rw [List.getElem?_toArray, bits_get hp, hsp]
  generalize hs9 : (fun i => if i = p then true else s i) = s' at *
  have IH := hide (fun q y r w h1 h2 h3 h4 h5 h6 h7 => ih (left9 s') (by omega) q y s' r w (Nat.le_refl _) h1 h2 h3 h4 h5 h6 h7)
  have hAll := hide (fun r => bup_all (T := T) hNA.2.2 (p := p) (x := x) (s := s') (o := o) (r := r))
  have hF : ∀ i, i ∈ lk9 f0 f1 n → 0 ≤ f0 i ∧ f0 i ≤ 5 := fun i hi => by
    have := hNA.2.2 i (lk9_mem.1 hi).1
    exact ⟨this.1, this.2.1⟩
  have hmem : Hid (∀ i, i ∈ bk9 f0 f1 p s' (lk9 f0 f1 n) → (∃ q : Nat, f0 i = q ∧ q < 6 ∧ s' q = false) ∧ ∃ l : Nat, f2 i = l ∧ l < m) := fun i hi => by
    obtain ⟨m1, _, m3⟩ := bk9_mem.1 hi
    have ar := hNA.2.2 i (lk9_mem.1 m1).1
    refine ⟨⟨(f0 i).toNat, by have := ar.1; omega, by have := ar.1; have := ar.2.1; omega, m3⟩, (f2 i).toNat, by have := ar.2.2.2.2.2.1; omega, by have := ar.2.2.2.2.2.1; have := ar.2.2.2.2.2.2; omega⟩
  have LK := hide (fun w R => i_linksBack va vc (lk9 f0 f1 n) f0 f1 f2 P (p : Int) s' w (Nat.le_trans (lk9_len f0 f1 n) hNA.2.1) hF R)
  have hb20 := hide (Nat.le_trans (bk9_len f0 f1 (p : Int) s' (lk9 f0 f1 n)) (Nat.le_trans (lk9_len f0 f1 n) hNA.2.1))
  have hrow := hide (fun l (hl : l < m) => hNA.1.2.2.2.2 l hl)
  have hlow := hide (fun l (hl : l < m) => hNA.1.low l hl)
  have hap := hide (fun l (hl : l < m) => ap9_ok hNA.1 (k := (l : Int)) (x := x) (by omega) (by omega) hx0 hx1)
  rw [bits6 s'] at hE LK
  simp only [bits6 s'] at IH
  clear ih hF hu hlf hNA
  generalize hcs : (bits 6 s).toArray = cs at *
  generalize bk9 f0 f1 p s' (lk9 f0 f1 n) = B at *
  generalize lk9 f0 f1 n = ks at *
  generalize hkl : ks.length = kl at *
  generalize s' 0 = z0 at *
  generalize s' 1 = z1 at *
  generalize s' 2 = z2 at *
  generalize s' 3 = z3 at *
  generalize s' 4 = z4 at *
  generalize s' 5 = z5 at *
  obtain ⟨⟨yo, ho0, ho1⟩, ho2⟩ := hO.2 p hp
  have ho1 := ho1 hp
  rw [ho1] at ho0
  have hbw : bb < w.heap.size := hO.1
  have hpi : (p : Int) < 6 := by omega
  have ML : ∀ X : Int, Mut (((w.setCell ⟨bb, p, none⟩ (.int .i64 X)).alloc (.cells #[.slice va kl vc] 121)).alloc (.cells #[.bool z0, .bool z1, .bool z2, .bool z3, .bool z4, .bool z5] 124)) w.heap.size [.slice va kl vc] := fun X => by
    have := (Mut.new (w.setCell ⟨bb, p, none⟩ (.int .i64 X)) #[.slice va kl vc] 121).alloc (.cells #[.bool z0, .bool z1, .bool z2, .bool z3, .bool z4, .bool z5] 124)
    simpa using this
  have MB : ∀ X : Int, Mut (((w.setCell ⟨bb, p, none⟩ (.int .i64 X)).alloc (.cells #[.slice va kl vc] 121)).alloc (.cells #[.bool z0, .bool z1, .bool z2, .bool z3, .bool z4, .bool z5] 124)) (w.heap.size + 1) [.bool z0, .bool z1, .bool z2, .bool z3, .bool z4, .bool z5] := fun X => by
    have := Mut.new ((w.setCell ⟨bb, p, none⟩ (.int .i64 X)).alloc (.cells #[.slice va kl vc] 121)) #[.bool z0, .bool z1, .bool z2, .bool z3, .bool z4, .bool z5] 124
    simpa using this
  have oX : ∀ X : Int, Only bb w (((w.setCell ⟨bb, p, none⟩ (.int .i64 X)).alloc (.cells #[.slice va kl vc] 121)).alloc (.cells #[.bool z0, .bool z1, .bool z2, .bool z3, .bool z4, .bool z5] 124)) := fun X => (((Only.refl bb w).setCell p (.int .i64 X)).alloc _).alloc _
  have OX : ∀ X : Int, X = min (o p) x → OutInt bb 6 6 (fun v => if v = p then min (o v) x else o v) (((w.setCell ⟨bb, p, none⟩ (.int .i64 X)).alloc (.cells #[.slice va kl vc] 121)).alloc (.cells #[.bool z0, .bool z1, .bool z2, .bool z3, .bool z4, .bool z5] 124)) := fun X hX => ((hO.put9 hp X).congr9 fun i _ => by
      by_cases e : i = p
      · subst e; simp [hX]
      · simp [e]).below (below_box2 (Below.refl _ _))
  have ML := hide ML
  have MB := hide MB
  have oX := hide oX
  have OX := hide OX
  have hz := hide (bup_zero (L := fun x y => lab9 f0 f1 f2 x y n) (T := T) (f0 := f0) (f2 := f2) (B := B) (p := p) (x := x) (s := s') o)
  have hmn : min (o p) x = (if x < o p then x else o p) := by
    rw [Int.min_def]; split <;> split <;> omega
  rw [hmn] at OX
  clear ho1
  generalize hop : o p = op at *
  by_cases hlt0 : x < op
  · rw [if_pos hlt0] at OX
    have M1 := ML.out x
    have B1 := MB.out x
    have o1 := oX.out x
    have O1 := OX.out x rfl
    clear ML MB oX OX
    go_enter Try.func104, Try.ntmps104
    go_wp2_with fail
    clear ho0 ho2 hlt0 hmn
    generalize ((w.setCell ⟨bb, p, none⟩ (.int .i64 x)).alloc (.cells #[.slice va kl vc] 121)).alloc (.cells #[.bool z0, .bool z1, .bool z2, .bool z3, .bool z4, .bool z5] 124) = wx at *
    generalize hb6 : w.heap.size = b6 at *
    have hL1 := hL.only o1
    refine (LK.out _ hL1.1).mono ?_
    rintro e w2 ⟨ba, bc9, rfl, hLB, hBn, b2⟩
    have M2 := M1.below b2
    have B2 := B1.below b2
    have O2 := O1.below b2
    have o2 := o1.trans (Only.of_below b2)
    have hwx : bb < wx.heap.size := O1.1
    have hbi : (B.length : Int) ≤ 20 := by have := hb20.out; omega
    clear b2 M1 B1 O1 o1 hL1 LK
    go_wp2_with fail
    go_loopw [28] (fun y wr => ∃ (k : Nat) (r : Nat → Int), y = .int .i64 k ∧ k ≤ B.length ∧ OutInt bb 6 6 r wr ∧ Only bb w wr ∧ Mut wr b6 [.slice va kl vc] ∧ Mut wr (b6 + 1) [.bool z0, .bool z1, .bool z2, .bool z3, .bool z4, .bool z5] ∧ Only bb w2 wr ∧ Hid (Least (Bup (fun x y => lab9 f0 f1 f2 x y n) T f0 f2 B p x s' k) o r)) (fun y _ => B.length - (intOf y).toNat)
    case atStart => exact ⟨0, _, rfl, Nat.zero_le _, O2, o2, M2, B2, Only.refl _ _, hz.out⟩
    case round =>
      clear O2 o2 M2 B2
      obtain ⟨k, r, rfl, hk, Or9, oR, MR, BR, onr, hLe⟩ := hrel
      by_cases hlt : k < B.length
      · have hlt' : (k : Int) < (B.length : Int) := by omega
        obtain ⟨z, hba, hz9⟩ := hBn (fun e => by rw [e] at hlt; simp at hlt)
        subst hba
        obtain ⟨b, off, hab, hbw9, u0, u1, u2⟩ := (hLB.only9 (bb := bb) (fun b off e => by simp only [Option.some.injEq, Addr.mk.injEq, and_true] at e; omega) onr) k hlt
        simp only [Option.some.injEq, Addr.mk.injEq, and_true] at hab
        obtain ⟨rfl, rfl⟩ := hab
        obtain ⟨⟨q, hq, hq6, hsq⟩, l, hl, hlm⟩ := hmem.out _ (getD_mem9 hlt)
        have hT := hide (fun r' => bup_take hLe.out (k := k) (q := r'))
        generalize B.getD k 0 = i at *
        rw [hq] at u0 hT
        rw [hl, Int.toNat_natCast] at u2
        rw [hl, Int.toNat_natCast] at hT
        have hapl := hap.out l hlm
        have hapE : ap9 T (l : Int) x = (T l).f x.toNat := rfl
        rw [hapE] at hapl hT
        have LZ := hide (fun w h => i_labelZ (P l) (T l) x w hx0 (by have := (hrow.out l hlm).1; omega) (hlow.out l hlm) h)
        have hlab9 := hide (fun (w : World) (h1 : Lks9 va ks f0 f1 f2 P m T bb w00 w) (h2 : Below w00.heap.size w00 w) => h1.lab h2 hlm)
        simp only [labV] at u2
        rw [Nat.zero_add] at u0 u1 u2
        generalize hyy : (T l).f x.toNat = y at *
        have hqi : (q : Int) < 6 := by omega
        have IHq := hide (fun r w => IH.out q y r w hq6 hsq hapl.1 hapl.2)
        generalize P l = pk at *
        generalize f1 i = lt9 at *
        clear hq hl hapE hyy hmem hAll hLe hz hLB
        go_wp2_with (first | (refine wpList_storeM rfl rfl rfl rfl (Mut.new _ _ _) rfl (by intro v hv; simp only [List.mem_cons, List.not_mem_nil, or_false] at hv; rcases hv with rfl | rfl | rfl <;> rfl) sizeLnk ?_; intro ws hM hOs))
        have v0 := hM.2.1 0 _ rfl
        have v2 := hM.2.1 2 _ rfl
        have dS : Below wr.heap.size wr ws := ((Below.refl wr.heap.size wr).alloc (Nat.le_refl _) _).trans (hOs.below (by simp))
        have MS := MR.below dS
        have BS := BR.below dS
        have OS := Or9.below dS
        have oS := oR.trans (Only.of_below dS)
        have onS := onr.trans (Only.of_below dS)
        clear hOs
        have hk0 : ws.cell? ⟨b6, 0, none⟩ = some (.slice va kl vc) ∧ ws.cell? ⟨b6 + 1, 0, none⟩ = some (.bool z0) ∧ ws.cell? ⟨b6 + 1, 1, none⟩ = some (.bool z1) ∧ ws.cell? ⟨b6 + 1, 2, none⟩ = some (.bool z2) ∧ ws.cell? ⟨b6 + 1, 3, none⟩ = some (.bool z3) ∧ ws.cell? ⟨b6 + 1, 4, none⟩ = some (.bool z4) ∧ ws.cell? ⟨b6 + 1, 5, none⟩ = some (.bool z5) ∧ ws.cell? ⟨wr.heap.size, 0, none⟩ = some (.int .i64 q) ∧ ws.cell? ⟨wr.heap.size, 2, none⟩ = some (.func (.func 165) #[] #[.pointer (some ⟨pk, 0, none⟩)]) := ⟨MS.2.1 0 _ rfl, BS.2.1 0 _ rfl, BS.2.1 1 _ rfl, BS.2.1 2 _ rfl, BS.2.1 3 _ rfl, BS.2.1 4 _ rfl, BS.2.1 5 _ rfl, v0, v2⟩
        have hp6 : b6 + 1 < ws.heap.size := BS.1
        have hlb : wr.heap.size < ws.heap.size := hM.1
        have hbr : bb < wr.heap.size := Or9.1
        have hbb6 : bb ≤ w.heap.size := by omega
        have hbl9 : wr.heap.size ≠ bb := by omega
        have hkd := keepR (Below.refl ws.heap.size ws).drew hp6 hlb hk0
        have dW := hB.trans ((oS.below hbb6).mono hw0)
        have hLS := hL.only oS
        have hLF := hide (hlab9.out _ hLS dW)
        have hLSd := hide (hLS.only (Only.of_below (Below.refl ws.heap.size ws).drew))
        have dWd := dW.drew
        have OSd := OS.below (Below.refl ws.heap.size ws).drew
        have hLFd := hide (hLF.out.below (Below.refl ws.heap.size ws).drew)
        have hLSh := hide hLS
        clear hLS u0 u1 u2 v0 v2
        go_region_held3 (fun w' => w'.cell? ⟨b6, 0, none⟩ = some (.slice va kl vc) ∧ w'.cell? ⟨b6 + 1, 0, none⟩ = some (.bool z0) ∧ w'.cell? ⟨b6 + 1, 1, none⟩ = some (.bool z1) ∧ w'.cell? ⟨b6 + 1, 2, none⟩ = some (.bool z2) ∧ w'.cell? ⟨b6 + 1, 3, none⟩ = some (.bool z3) ∧ w'.cell? ⟨b6 + 1, 4, none⟩ = some (.bool z4) ∧ w'.cell? ⟨b6 + 1, 5, none⟩ = some (.bool z5) ∧ w'.cell? ⟨wr.heap.size, 0, none⟩ = some (.int .i64 q) ∧ w'.cell? ⟨wr.heap.size, 2, none⟩ = some (.func (.func 165) #[] #[.pointer (some ⟨pk, 0, none⟩)])) (first | with_reducible exact hkN | with_reducible exact hkd | with_reducible exact hk0)
          (first
            | (go_at_call 165; refine (LZ.out _ (by first | with_reducible exact hLFd.out | with_reducible exact hLF.out)).mono ?_; rintro e w9 ⟨rfl, hw9⟩; rw [hw9]; clear hw9 w9)
            | (go_at_call 104; refine (IHq.out r _ (by first | with_reducible exact dWd | with_reducible exact dW) (by first | with_reducible exact hLSd.out | with_reducible exact hLSh.out) (by first | with_reducible exact OSd | with_reducible exact OS)).mono ?_; rintro e wN ⟨rfl, r2, hON, oN, hLN⟩; have oN3 : Only bb ws wN := (by first | with_reducible exact (Only.of_below (Below.refl ws.heap.size ws).drew).trans oN | with_reducible exact oN); have hkN := keepRo oN3 hp6 hlb (by omega) hbl9 hk0))
        all_goals
          go_wp2_with fail
          exact ⟨⟨k + 1, r2, by go_num, by omega, hON, oS.trans oN3, MS.only oN3 (by omega), BS.only oN3 (by omega), onS.trans oN3, hT.out r2 hLN⟩, by simp [intOf]; omega⟩
      · have hlt' : ¬ (k : Int) < (B.length : Int) := by omega
        obtain rfl : k = B.length := by omega
        have hR9 := hide (hAll.out r hLe.out)
        clear hAll hLe hmem hLB
        go_wp2_with fail
        go_end0
        exact ⟨rfl, r, Or9, oR, hR9.out⟩
  · rw [if_neg hlt0] at OX
    have M1 := ML.out op
    have B1 := MB.out op
    have o1 := oX.out op
    have O1 := OX.out op rfl
    clear ML MB oX OX
    go_enter Try.func104, Try.ntmps104
    go_wp2_with fail
    clear ho0 ho2 hlt0 hmn
    generalize ((w.setCell ⟨bb, p, none⟩ (.int .i64 op)).alloc (.cells #[.slice va kl vc] 121)).alloc (.cells #[.bool z0, .bool z1, .bool z2, .bool z3, .bool z4, .bool z5] 124) = wx at *
    generalize hb6 : w.heap.size = b6 at *
    have hL1 := hL.only o1
    refine (LK.out _ hL1.1).mono ?_
    rintro e w2 ⟨ba, bc9, rfl, hLB, hBn, b2⟩
    have M2 := M1.below b2
    have B2 := B1.below b2
    have O2 := O1.below b2
    have o2 := o1.trans (Only.of_below b2)
    have hwx : bb < wx.heap.size := O1.1
    have hbi : (B.length : Int) ≤ 20 := by have := hb20.out; omega
    clear b2 M1 B1 O1 o1 hL1 LK
    go_wp2_with fail
    go_loopw [28] (fun y wr => ∃ (k : Nat) (r : Nat → Int), y = .int .i64 k ∧ k ≤ B.length ∧ OutInt bb 6 6 r wr ∧ Only bb w wr ∧ Mut wr b6 [.slice va kl vc] ∧ Mut wr (b6 + 1) [.bool z0, .bool z1, .bool z2, .bool z3, .bool z4, .bool z5] ∧ Only bb w2 wr ∧ Hid (Least (Bup (fun x y => lab9 f0 f1 f2 x y n) T f0 f2 B p x s' k) o r)) (fun y _ => B.length - (intOf y).toNat)
    case atStart => exact ⟨0, _, rfl, Nat.zero_le _, O2, o2, M2, B2, Only.refl _ _, hz.out⟩
    case round =>
      clear O2 o2 M2 B2
      obtain ⟨k, r, rfl, hk, Or9, oR, MR, BR, onr, hLe⟩ := hrel
      by_cases hlt : k < B.length
      · have hlt' : (k : Int) < (B.length : Int) := by omega
        obtain ⟨z, hba, hz9⟩ := hBn (fun e => by rw [e] at hlt; simp at hlt)
        subst hba
        obtain ⟨b, off, hab, hbw9, u0, u1, u2⟩ := (hLB.only9 (bb := bb) (fun b off e => by simp only [Option.some.injEq, Addr.mk.injEq, and_true] at e; omega) onr) k hlt
        simp only [Option.some.injEq, Addr.mk.injEq, and_true] at hab
        obtain ⟨rfl, rfl⟩ := hab
        obtain ⟨⟨q, hq, hq6, hsq⟩, l, hl, hlm⟩ := hmem.out _ (getD_mem9 hlt)
        have hT := hide (fun r' => bup_take hLe.out (k := k) (q := r'))
        generalize B.getD k 0 = i at *
        rw [hq] at u0 hT
        rw [hl, Int.toNat_natCast] at u2
        rw [hl, Int.toNat_natCast] at hT
        have hapl := hap.out l hlm
        have hapE : ap9 T (l : Int) x = (T l).f x.toNat := rfl
        rw [hapE] at hapl hT
        have LZ := hide (fun w h => i_labelZ (P l) (T l) x w hx0 (by have := (hrow.out l hlm).1; omega) (hlow.out l hlm) h)
        have hlab9 := hide (fun (w : World) (h1 : Lks9 va ks f0 f1 f2 P m T bb w00 w) (h2 : Below w00.heap.size w00 w) => h1.lab h2 hlm)
        simp only [labV] at u2
        rw [Nat.zero_add] at u0 u1 u2
        generalize hyy : (T l).f x.toNat = y at *
        have hqi : (q : Int) < 6 := by omega
        have IHq := hide (fun r w => IH.out q y r w hq6 hsq hapl.1 hapl.2)
        generalize P l = pk at *
        generalize f1 i = lt9 at *
        clear hq hl hapE hyy hmem hAll hLe hz hLB
        go_wp2_with (first | (refine wpList_storeM rfl rfl rfl rfl (Mut.new _ _ _) rfl (by intro v hv; simp only [List.mem_cons, List.not_mem_nil, or_false] at hv; rcases hv with rfl | rfl | rfl <;> rfl) sizeLnk ?_; intro ws hM hOs))
        have v0 := hM.2.1 0 _ rfl
        have v2 := hM.2.1 2 _ rfl
        have dS : Below wr.heap.size wr ws := ((Below.refl wr.heap.size wr).alloc (Nat.le_refl _) _).trans (hOs.below (by simp))
        have MS := MR.below dS
        have BS := BR.below dS
        have OS := Or9.below dS
        have oS := oR.trans (Only.of_below dS)
        have onS := onr.trans (Only.of_below dS)
        clear hOs
        have hk0 : ws.cell? ⟨b6, 0, none⟩ = some (.slice va kl vc) ∧ ws.cell? ⟨b6 + 1, 0, none⟩ = some (.bool z0) ∧ ws.cell? ⟨b6 + 1, 1, none⟩ = some (.bool z1) ∧ ws.cell? ⟨b6 + 1, 2, none⟩ = some (.bool z2) ∧ ws.cell? ⟨b6 + 1, 3, none⟩ = some (.bool z3) ∧ ws.cell? ⟨b6 + 1, 4, none⟩ = some (.bool z4) ∧ ws.cell? ⟨b6 + 1, 5, none⟩ = some (.bool z5) ∧ ws.cell? ⟨wr.heap.size, 0, none⟩ = some (.int .i64 q) ∧ ws.cell? ⟨wr.heap.size, 2, none⟩ = some (.func (.func 165) #[] #[.pointer (some ⟨pk, 0, none⟩)]) := ⟨MS.2.1 0 _ rfl, BS.2.1 0 _ rfl, BS.2.1 1 _ rfl, BS.2.1 2 _ rfl, BS.2.1 3 _ rfl, BS.2.1 4 _ rfl, BS.2.1 5 _ rfl, v0, v2⟩
        have hp6 : b6 + 1 < ws.heap.size := BS.1
        have hlb : wr.heap.size < ws.heap.size := hM.1
        have hbr : bb < wr.heap.size := Or9.1
        have hbb6 : bb ≤ w.heap.size := by omega
        have hbl9 : wr.heap.size ≠ bb := by omega
        have hkd := keepR (Below.refl ws.heap.size ws).drew hp6 hlb hk0
        have dW := hB.trans ((oS.below hbb6).mono hw0)
        have hLS := hL.only oS
        have hLF := hide (hlab9.out _ hLS dW)
        have hLSd := hide (hLS.only (Only.of_below (Below.refl ws.heap.size ws).drew))
        have dWd := dW.drew
        have OSd := OS.below (Below.refl ws.heap.size ws).drew
        have hLFd := hide (hLF.out.below (Below.refl ws.heap.size ws).drew)
        have hLSh := hide hLS
        clear hLS u0 u1 u2 v0 v2
        go_region_held3 (fun w' => w'.cell? ⟨b6, 0, none⟩ = some (.slice va kl vc) ∧ w'.cell? ⟨b6 + 1, 0, none⟩ = some (.bool z0) ∧ w'.cell? ⟨b6 + 1, 1, none⟩ = some (.bool z1) ∧ w'.cell? ⟨b6 + 1, 2, none⟩ = some (.bool z2) ∧ w'.cell? ⟨b6 + 1, 3, none⟩ = some (.bool z3) ∧ w'.cell? ⟨b6 + 1, 4, none⟩ = some (.bool z4) ∧ w'.cell? ⟨b6 + 1, 5, none⟩ = some (.bool z5) ∧ w'.cell? ⟨wr.heap.size, 0, none⟩ = some (.int .i64 q) ∧ w'.cell? ⟨wr.heap.size, 2, none⟩ = some (.func (.func 165) #[] #[.pointer (some ⟨pk, 0, none⟩)])) (first | with_reducible exact hkN | with_reducible exact hkd | with_reducible exact hk0)
          (first
            | (go_at_call 165; refine (LZ.out _ (by first | with_reducible exact hLFd.out | with_reducible exact hLF.out)).mono ?_; rintro e w9 ⟨rfl, hw9⟩; rw [hw9]; clear hw9 w9)
            | (go_at_call 104; refine (IHq.out r _ (by first | with_reducible exact dWd | with_reducible exact dW) (by first | with_reducible exact hLSd.out | with_reducible exact hLSh.out) (by first | with_reducible exact OSd | with_reducible exact OS)).mono ?_; rintro e wN ⟨rfl, r2, hON, oN, hLN⟩; have oN3 : Only bb ws wN := (by first | with_reducible exact (Only.of_below (Below.refl ws.heap.size ws).drew).trans oN | with_reducible exact oN); have hkN := keepRo oN3 hp6 hlb (by omega) hbl9 hk0))
        all_goals
          go_wp2_with fail
          exact ⟨⟨k + 1, r2, by go_num, by omega, hON, oS.trans oN3, MS.only oN3 (by omega), BS.only oN3 (by omega), onS.trans oN3, hT.out r2 hLN⟩, by simp [intOf]; omega⟩
      · have hlt' : ¬ (k : Int) < (B.length : Int) := by omega
        obtain rfl : k = B.length := by omega
        have hR9 := hide (hAll.out r hLe.out)
        clear hAll hLe hmem hLB
        go_wp2_with fail
        go_end0
        exact ⟨rfl, r, Or9, oR, hR9.out⟩
end Go.Proofs.Ytcnlabedlcmilaa
