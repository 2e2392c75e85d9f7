/- Reading bytes: what the specification's number answers. -/
import Derived.Test.YtoeephmdklmpfaaMut4
import Derived.Test.YtoeephmdklmpfaaS4b
namespace Go.Proofs.Ytoeephmdklmpfaa
open Go.RowKit

/-- The number that bytes tell, the highest first. -/
def val (L : List Int) : Int := L.foldl (fun n b => n * 256 + b) 0
theorem val_snoc (L : List Int) (b : Int) : val (L ++ [b]) = val L * 256 + b := by unfold val; rw [List.foldl_append]; rfl
theorem fold_bd (L : List Int) (h : ∀ x ∈ L, 0 ≤ x ∧ x < 256) (n : Int) (k : Nat) (h0 : 0 ≤ n) (h1 : n < 256 ^ k) : 0 ≤ L.foldl (fun n b => n * 256 + b) n ∧ L.foldl (fun n b => n * 256 + b) n < 256 ^ (k + L.length) := by
  induction L generalizing n k with
  | nil => exact ⟨h0, h1⟩
  | cons b L ih =>
    obtain ⟨h3, h4⟩ := h b (by simp)
    have := ih (fun x hx => h x (List.mem_cons_of_mem _ hx)) (n * 256 + b) (k + 1) (by omega) (by rw [Int.pow_succ]; omega)
    rw [List.length_cons, show k + (L.length + 1) = k + 1 + L.length by omega]
    exact this
theorem val_bd (L : List Int) (h : ∀ x ∈ L, 0 ≤ x ∧ x < 256) : 0 ≤ val L ∧ val L < 256 ^ L.length := by
  have := fold_bd L h 0 0 (by omega) (by decide)
  rwa [Nat.zero_add] at this
/-- A byte behind a number: the bits stand side by side. -/
theorem bits_or8 (n x : Int) (h0 : 0 ≤ n) (h1 : n < 16777216) (x0 : 0 ≤ x) (x1 : x < 256) : bits .or .i64 (n * 256) (wrap64 x) = n * 256 + x := by
  rw [IntWalk.wrap64_in x (by omega)]
  obtain ⟨a, rfl⟩ := Int.eq_ofNat_of_zero_le h0
  obtain ⟨b, rfl⟩ := Int.eq_ofNat_of_zero_le x0
  have ha : a < 16777216 := by omega
  have hb : b < 256 := by omega
  have e : ((a : Int) * 256) = ((256 * a : Nat) : Int) := by omega
  rw [e]
  have k1 : (BitVec.ofInt 64 ((256 * a : Nat) : Int)).toNat = 256 * a := by
    rw [BitVec.ofInt_natCast, BitVec.toNat_ofNat]; exact Nat.mod_eq_of_lt (by omega)
  have k2 : (BitVec.ofInt 64 (b : Int)).toNat = b := by
    rw [BitVec.ofInt_natCast, BitVec.toNat_ofNat]; exact Nat.mod_eq_of_lt (by omega)
  show IntKind.i64.wrap ((BitVec.ofInt 64 ((256 * a : Nat) : Int) ||| BitVec.ofInt 64 (b : Int)).toNat : Int) = _
  rw [BitVec.toNat_or, k1, k2]
  have k3 : 256 * a ||| b = 256 * a + b := (Nat.two_pow_add_eq_or_of_lt (i := 8) (by omega) a).symm
  rw [k3, wrapk_in _ (by omega)]
  omega
/-- The bytes of a string. -/
def sbs (s : ByteArray) : List Int := s.data.toList.map fun b => (b.toNat : Int)
theorem sbs_len (s : ByteArray) : (sbs s).length = s.size := by unfold sbs; rw [List.length_map]; rfl
theorem sbs_byte (s : ByteArray) : ∀ x ∈ sbs s, 0 ≤ x ∧ x < 256 := by
  intro x hx
  simp only [sbs, List.mem_map] at hx
  obtain ⟨b, _, rfl⟩ := hx
  have := b.toNat_lt
  omega
theorem sbs_at {s : ByteArray} {i : Nat} (h : i < s.size) : (sbs s)[i]? = some ((s[i].toNat : Int)) := by
  unfold sbs
  rw [List.getElem?_map]
  have h' : i < s.data.toList.length := by simpa using h
  rw [List.getElem?_eq_getElem h']
  simp
  rfl
theorem take_drop_next {L : List Int} {p k : Nat} {x : Int} (h : L[p + k]? = some x) : (L.drop p).take (k + 1) = (L.drop p).take k ++ [x] := by
  rw [List.take_add_one, List.getElem?_drop, h]
  rfl
set_option maxRecDepth 100000 in
set_option maxHeartbeats 1600000 in
theorem s_number_yes (b : Nat) (s : ByteArray) (p m : Nat) (w : World) (hs : s.size ≤ 1000) (hm : m ≤ 4) (hp : p + m ≤ s.size) (M : Mut w b [.string s, .int .i64 p, .int .i64 0]) :
    Calls Try.prog 64 #[.pointer (some ⟨b, 0, none⟩), .int .i64 m] w fun e w' => e = .returned (.int .i64 (val (((sbs s).drop p).take m))) ∧ Mut w' b [.string s, .int .i64 (p + m : Nat), .int .i64 0] ∧ Only b w w' := by
  have q0 := M.2.1 0 _ rfl
  have q1 := M.2.1 1 _ rfl
  have q2 := M.2.1 2 _ rfl
  have hg : ¬ ((m : Int) > (s.size : Int) - (p : Int)) := by omega
  go_enter Try.func64, Try.ntmps64
  go_wp2_with fail
  go_quiet (fail)
  go_wp2_with fail
  have M' := fun n => M.below (below_drewN (Below.refl w.heap.size w) n)
  have o1 : ∀ n, Only b w (w.drewN n) := fun n => (Only.refl b w).drewN n
  go_loopw [1, 5] (fun x n wr => ∃ k : Nat, k ≤ m ∧ x = .int .i64 ((m : Int) - k) ∧ n = .int .i64 (val (((sbs s).drop p).take k)) ∧ Mut wr b [.string s, .int .i64 ((p : Int) + k), .int .i64 0] ∧ Only b w wr) (fun x _ _ => (intOf x).toNat)
  case atStart => exact ⟨0, Nat.zero_le _, by simp, rfl, by simpa using M' _, o1 _⟩
  case round =>
    clear M M' o1 q0 q1 q2 hg
    obtain ⟨k, hk, rfl, rfl, M, ho⟩ := hrel
    by_cases hlt : k < m
    · have q0 := M.2.1 0 _ rfl
      have q1 := M.2.1 1 _ rfl
      have z1 := M.2.2 1 (by simp)
      have hgt : (m : Int) - k > 0 := by omega
      have hi0 : ¬ ((p : Int) + k < 0) := by omega
      have hi1 : (p : Int) + k < (s.size : Int) := by omega
      obtain ⟨v0, v1⟩ := val_bd (((sbs s).drop p).take k) (fun x hx => sbs_byte s x (List.mem_of_mem_drop (List.mem_of_mem_take hx)))
      have vb : (256 : Int) ^ (((sbs s).drop p).take k).length ≤ 16777216 := by
        have : (((sbs s).drop p).take k).length ≤ 3 := by rw [List.length_take]; omega
        rcases (show (((sbs s).drop p).take k).length = 0 ∨ (((sbs s).drop p).take k).length = 1 ∨ (((sbs s).drop p).take k).length = 2 ∨ (((sbs s).drop p).take k).length = 3 by omega) with e | e | e | e <;> rw [e] <;> decide
      have v2 : val (((sbs s).drop p).take k) < 16777216 := by omega
      clear vb v1
      have hx := sbs_at (s := s) (i := p + k) (by omega)
      have hvn := hide (show val (((sbs s).drop p).take (k + 1)) = val (((sbs s).drop p).take k) * 256 + (s[p + k].toNat : Int) by rw [take_drop_next hx, val_snoc])
      have hxb := hide (show (0 : Int) ≤ (s[p + k].toNat : Int) ∧ (s[p + k].toNat : Int) < 256 by have := (s[p + k]).toNat_lt; omega)
      clear hx
      generalize val (((sbs s).drop p).take k) = n at v0 v2 hvn ⊢
      have MD := fun n => M.below (below_drewN (Below.refl wr.heap.size wr) n)
      have hoD := fun n => ho.drewN n
      go_wp2_with fail
      go_quiet (fail)
      go_wp2_with fail
      refine ⟨⟨k + 1, by omega, by congr 1; omega, ?_, ?_, (hoD _).setCell _ _⟩, by simp [intOf]; omega⟩
      · rw [bits_or8 _ _ v0 v2 hxb.out.1 hxb.out.2, hvn.out]
      · have := (MD nq).set 1 (.int .i64 ((p : Int) + k + 1))
        rw [show (p : Int) + ((k + 1 : Nat) : Int) = (p : Int) + k + 1 by omega]
        exact this
    · have hk' : k = m := by omega
      subst hk'
      go_wp2_with fail
      go_ret
      exact ⟨rfl, by simpa using M, ho⟩
end Go.Proofs.Ytoeephmdklmpfaa
