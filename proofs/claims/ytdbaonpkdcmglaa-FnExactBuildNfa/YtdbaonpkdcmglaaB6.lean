/- What BuildNfa answers, of the program and of the specification. -/
import Derived.Test.YtdbaonpkdcmglaaS6k
import Derived.Test.YtdbaonpkdcmglaaS6d
import Derived.Test.YtdbaonpkdcmglaaI6k
import Derived.Test.YtdbaonpkdcmglaaLaw6n
namespace Go.Proofs.Ytdbaonpkdcmglaa
open Go.RowKit

def bnS (L : List Cl) : Int := if rgB L then 2 * (L.length : Int) else 0
def bnE (L : List Cl) : Int := if rgB L then 1 else 0
def bnA (L : List Cl) : List Ed := match rg L with
  | some t => t.edi 0
  | none => []
theorem bnA_len (L : List Cl) : (bnA L).length ≤ 120 := by
  unfold bnA
  cases h : rg L with
  | none => simp
  | some t =>
    obtain ⟨h1, h2, _⟩ := rg_cells h
    rw [h1] at h2
    have := edi_len t 0
    simp only []
    omega
/-- The answer: a machine whose edges lie in memory of their own, and a flag. -/
def AnsN (fl : Bool) (s en : Int) (R : List Ed) (w : World) (e : Ending) (w' : World) : Prop := ∃ v, e = .returned (.tuple #[.agg #[.int .i64 s, .int .i64 0, .int .i64 en, v], .bool fl]) ∧ OwnG w.heap.size v R w' ∧ Below w.heap.size w w'
theorem ownG_set {base tb : Nat} {v : Value} {w : World} {KL : List Ed} (h : OwnG base v KL w) (hb : tb < base) (o : Nat) (x : Value) : OwnG base v KL (w.setCell ⟨tb, o, none⟩ x) := by
  have ho : Only tb w (w.setCell ⟨tb, o, none⟩ x) := (Only.refl tb w).setCell o x
  refine World.ownsRow.kept h (row := some tb) ⟨ho.1, ho.2.1, ho.2.2.1, ho.2.2.2.1, fun k hk hn => ho.2.2.2.2 k hk (fun e => hn (by rw [e]))⟩ ?_
  cases hv : v.ownBlock with
  | none => exact .inl rfl
  | some g => exact .inr (by have := (World.ownsRow.lt h g hv).1; simp; omega)
set_option maxRecDepth 100000 in
set_option maxHeartbeats 1600000 in
theorem i_buildNfa (a : Option Addr) (cap : Nat) (L : List Cl) (w : World) (hm : L.length ≤ 8589934592) (hc : L.length ≤ cap) (hR : RowQ a L w) : Calls Try.prog 30 #[.slice a L.length cap] w (AnsN (rgB L) (bnS L) (bnE L) (bnA L) w) := by
  have S1 := hide (fun w hR => i_readRegex a cap L w hm hc hR)
  cases h : rg L with
  | none =>
    have hr : rgB L = false := by simp [rgB, h]
    rw [show bnS L = 0 from by simp [bnS, hr], show bnE L = 0 from by simp [bnE, hr], hr, show bnA L = [] from by simp [bnA, h]]
    rw [h] at S1
    go_enter Try.func30, Try.ntmps30
    go_wp2_with fail
    refine (S1.out _ (hR.below (below_box (Below.refl _ _)))).mono ?_
    rintro e w1 ⟨p, hp, rfl, b1⟩
    have M1 := (Mut.new w #[.int .i64 0, .int .i64 0, .int .i64 0, .slice none 0 0] 43).below b1
    have v0 := M1.2.1 0 _ rfl
    have v1 := M1.2.1 1 _ rfl
    have v2 := M1.2.1 2 _ rfl
    have v3 := M1.2.1 3 _ rfl
    have f0 := M1.2.2 0 (by simp)
    have f1 := M1.2.2 1 (by simp)
    have f2 := M1.2.2 2 (by simp)
    have f3 := M1.2.2 3 (by simp)
    have d1 := hide (below_box b1)
    clear M1 b1
    go_wp2_with fail
    refine bodyPost_ret (v := .tuple #[.agg #[.int .i64 0, .int .i64 0, .int .i64 0, .slice none 0 0], .bool false]) (by simp [results, Try.results30, go_sem, v0, v1, v2, v3]) rfl ?_
    exact ⟨_, rfl, ownG_nil _ _, (((d1.out.setCell (Nat.le_refl _) _).setCell (Nat.le_refl _) _).setCell (Nat.le_refl _) _).setCell (Nat.le_refl _) _⟩
  | some t =>
    obtain ⟨h1, h2, _⟩ := rg_cells h
    have hr : rgB L = true := by simp [rgB, h]
    have ht : t.cells.length ≤ 30 := by rw [← h1]; exact h2
    rw [show bnS L = 2 * (L.length : Int) from by simp [bnS, hr], show bnE L = 1 from by simp [bnE, hr], hr, show bnA L = t.edi 0 from by simp [bnA, h]]
    rw [h] at S1
    have SS := hide (fun w => i_startOf 0 w (by omega) (by omega))
    have SE := hide (fun w => i_endOf 0 w (by omega) (by omega))
    have S2 := hide (fun w => i_edgesOf t 0 w (by omega) (by omega))
    rw [show (2 * (0 : Int)) = 0 from rfl] at SS
    rw [show (2 * (0 : Int) + 1) = 1 from rfl] at SE
    have hl2 : (L.length : Int) ≤ 30 := by omega
    clear h1 ht
    go_enter Try.func30, Try.ntmps30
    go_wp2_with fail
    refine (S1.out _ (hR.below (below_box (Below.refl _ _)))).mono ?_
    rintro e w1 ⟨rfl, b1⟩
    go_wp2_with fail
    refine (SS.out _).mono ?_
    rintro e w_ ⟨rfl, hw_⟩
    rw [hw_]
    clear hw_ w_
    go_wp2_with fail
    refine (SE.out _).mono ?_
    rintro e w_ ⟨rfl, hw_⟩
    rw [hw_]
    clear hw_ w_
    go_wp2_with fail
    refine (S2.out _).mono ?_
    rintro e w2 ⟨v, rfl, ho, b2⟩
    obtain ⟨va, vc, rfl, _, _⟩ := ownG_row ho
    have M1 := ((Mut.new w #[.int .i64 0, .int .i64 0, .int .i64 0, .slice none 0 0] 43).below b1).below b2
    have v0 := M1.2.1 0 _ rfl
    have v1 := M1.2.1 1 _ rfl
    have v2 := M1.2.1 2 _ rfl
    have v3 := M1.2.1 3 _ rfl
    have f0 := M1.2.2 0 (by simp)
    have f1 := M1.2.2 1 (by simp)
    have f2 := M1.2.2 2 (by simp)
    have f3 := M1.2.2 3 (by simp)
    have hz : w.heap.size + 1 ≤ w1.heap.size := by have := b1.size; simpa using this
    have d2 := hide (below_box (below_step b1 b2))
    replace ho := hide (ownG_base (base' := w.heap.size + 1) ho hz)
    clear M1 b1 b2 hz
    go_wp2_with fail
    refine bodyPost_ret (v := .tuple #[.agg #[.int .i64 (2 * (L.length : Int)), .int .i64 0, .int .i64 1, .slice va (t.edi 0).length vc], .bool true]) (by simp [results, Try.results30, go_sem, v0, v1, v2, v3]) rfl ?_
    exact ⟨_, rfl, ownG_base (ownG_set (ownG_set (ownG_set (ownG_set ho.out (by omega) _ _) (by omega) _ _) (by omega) _ _) (by omega) _ _) (by omega), (((d2.out.setCell (Nat.le_refl _) _).setCell (Nat.le_refl _) _).setCell (Nat.le_refl _) _).setCell (Nat.le_refl _) _⟩
set_option maxRecDepth 100000 in
set_option maxHeartbeats 1600000 in
theorem s_buildNfa (b off cap : Nat) (L : List Cl) (w : World) (hm : L.length ≤ 8589934592) (hbw : b < w.heap.size) (hR : RowQ (some ⟨b, off, none⟩) L w) : Calls Try.prog 29 #[.slice (some ⟨b, off, none⟩) L.length cap] w (AnsN (rgB L) (bnS L) (bnE L) (bnA L) w) := by
  have S1 := hide (fun w hR => s_goodRegex b off cap L w hm hR)
  cases h : rg L with
  | none =>
    have hr : rgB L = false := by simp [rgB, h]
    rw [show bnS L = 0 from by simp [bnS, hr], show bnE L = 0 from by simp [bnE, hr], hr, show bnA L = [] from by simp [bnA, h]]
    rw [hr] at S1
    go_enter Try.func29, Try.ntmps29
    go_wp2_with fail
    refine (S1.out _ (hR.below (below_box (Below.refl _ _)))).mono ?_
    rintro e w1 ⟨rfl, b1⟩
    have M1 := (Mut.new w #[.int .i64 0, .int .i64 0, .int .i64 0, .slice none 0 0] 43).below b1
    have v0 := M1.2.1 0 _ rfl
    have v1 := M1.2.1 1 _ rfl
    have v2 := M1.2.1 2 _ rfl
    have v3 := M1.2.1 3 _ rfl
    have f0 := M1.2.2 0 (by simp)
    have f1 := M1.2.2 1 (by simp)
    have f2 := M1.2.2 2 (by simp)
    have f3 := M1.2.2 3 (by simp)
    have d1 := hide (below_box b1)
    clear M1 b1
    go_wp2_with fail
    refine bodyPost_ret (v := .tuple #[.agg #[.int .i64 0, .int .i64 0, .int .i64 0, .slice none 0 0], .bool false]) (by simp [results, Try.results29, go_sem, v0, v1, v2, v3]) rfl ?_
    exact ⟨_, rfl, ownG_nil _ _, (((d1.out.setCell (Nat.le_refl _) _).setCell (Nat.le_refl _) _).setCell (Nat.le_refl _) _).setCell (Nat.le_refl _) _⟩
  | some t =>
    obtain ⟨h1, h2, h3⟩ := rg_cells h
    have hr : rgB L = true := by simp [rgB, h]
    have ht : t.cells.length ≤ 30 := by rw [← h1]; exact h2
    rw [show bnS L = 2 * (L.length : Int) from by simp [bnS, hr], show bnE L = 1 from by simp [bnE, hr], hr, show bnA L = t.edi 0 from by simp [bnA, h]]
    rw [hr] at S1
    have hl2 : (L.length : Int) ≤ 30 := by omega
    have S2 := hide (fun (base : Nat) (w : World) (hb : b < base) (hz : base ≤ w.heap.size) (hR : RowQ (some ⟨b, off, none⟩) L w) => s_nfa L b off cap base h2 hb L.length 0 t [] (.slice none 0 0) [] w (by rw [List.drop_zero]; exact h3) (by omega) hz hR (ownG_nil _ _) (by simp only [List.length_nil]; omega))
    simp only [List.nil_append, Int.natCast_zero] at S2
    clear h1 ht h3
    go_enter Try.func29, Try.ntmps29
    go_wp2_with fail
    refine (S1.out _ (hR.below (below_box (Below.refl _ _)))).mono ?_
    rintro e w1 ⟨rfl, b1⟩
    have hz : w.heap.size + 1 ≤ w1.heap.size := by have := b1.size; simpa using this
    have hz' := hide hz
    have d1 := hide (below_box b1)
    clear hz
    go_wp2_with fail
    refine (S2.out w1.heap.size w1 (by have := hz'.out; omega) (Nat.le_refl _) (hR.below d1.out)).mono ?_
    rintro e w2 ⟨v, x, rfl, rfl, ho, b2⟩
    obtain ⟨va, vc, rfl, _, _⟩ := ownG_row ho
    have M1 := ((Mut.new w #[.int .i64 0, .int .i64 0, .int .i64 0, .slice none 0 0] 43).below b1).below b2
    have v0 := M1.2.1 0 _ rfl
    have v1 := M1.2.1 1 _ rfl
    have v2 := M1.2.1 2 _ rfl
    have v3 := M1.2.1 3 _ rfl
    have f0 := M1.2.2 0 (by simp)
    have f1 := M1.2.2 1 (by simp)
    have f2 := M1.2.2 2 (by simp)
    have f3 := M1.2.2 3 (by simp)
    have d2 := hide (d1.out.trans (b2.mono d1.out.size))
    replace ho := hide (ownG_base (base' := w.heap.size + 1) ho hz'.out)
    clear M1 b1 b2
    go_wp2_with fail
    refine bodyPost_ret (v := .tuple #[.agg #[.int .i64 (2 * (L.length : Int)), .int .i64 0, .int .i64 1, .slice va (t.edi 0).length vc], .bool true]) (by simp [results, Try.results29, go_sem, v0, v1, v2, v3]) rfl ?_
    exact ⟨_, rfl, ownG_base (ownG_set (ownG_set (ownG_set (ownG_set ho.out (by omega) _ _) (by omega) _ _) (by omega) _ _) (by omega) _ _) (by omega), (((d2.out.setCell (Nat.le_refl _) _).setCell (Nat.le_refl _) _).setCell (Nat.le_refl _) _).setCell (Nat.le_refl _) _⟩
end Go.Proofs.Ytdbaonpkdcmglaa
