/- Reading a prefix: what the specification's number answers at a fault, and its prefix. -/
import Derived.Test.YtoeephmdklmpfaaS4r
namespace Go.Proofs.Ytoeephmdklmpfaa
open Go.RowKit

/-- The code of reading a prefix. -/
def rdCode : List Int → Int
  | [] => 1
  | l :: D => if l > 32 then 3 else if D.length < need l then 1 else 0
def rdL : List Int → Int
  | [] => 0
  | l :: _ => l
def rdA : List Int → Int
  | [] => 0
  | l :: D => val (D.take (need l)) * 2 ^ (32 - 8 * need l)
def rdN : List Int → Nat
  | [] => 0
  | l :: _ => 1 + need l

set_option maxRecDepth 100000 in
set_option maxHeartbeats 1600000 in
theorem s_number_short (b : Nat) (s : ByteArray) (p m : Nat) (w : World) (_hs : s.size ≤ 1000) (_hm : m ≤ 4) (_hp : p ≤ s.size) (hp2 : s.size < p + m) (M : Mut w b [.string s, .int .i64 p, .int .i64 0]) :
    Calls Try.prog 64 #[.pointer (some ⟨b, 0, none⟩), .int .i64 m] w fun e w' => e = .returned (.int .i64 0) ∧ Mut w' b [.string s, .int .i64 p, .int .i64 1] ∧ Only b w w' := by
  have q0 := M.2.1 0 _ rfl
  have q1 := M.2.1 1 _ rfl
  have q2 := M.2.1 2 _ rfl
  have z2 := M.2.2 2 (by simp)
  have hg : ((m : Int) > (s.size : Int) - (p : Int)) := by omega
  have M' := fun n => (M.below (below_drewN (Below.refl w.heap.size w) n)).set 2 (.int .i64 1)
  have o1 : ∀ n v, Only b w ((w.drewN n).setCell ⟨b, 2, none⟩ v) := fun n v => ((Only.refl b w).drewN n).setCell 2 v
  clear M
  go_enter Try.func64, Try.ntmps64
  go_wp2_with fail
  go_quiet (fail)
  go_wp2_with fail
  go_ret
  exact ⟨rfl, M' _, o1 _ _⟩
set_option maxRecDepth 100000 in
set_option maxHeartbeats 1600000 in
theorem s_number_bad (b : Nat) (s : ByteArray) (p : Int) (c m : Int) (w : World) (hc : c ≠ 0) (M : Mut w b [.string s, .int .i64 p, .int .i64 c]) :
    Calls Try.prog 64 #[.pointer (some ⟨b, 0, none⟩), .int .i64 m] w fun e w' => e = .returned (.int .i64 0) ∧ Below w.heap.size w w' := by
  have q0 := M.2.1 0 _ rfl
  have q1 := M.2.1 1 _ rfl
  have q2 := M.2.1 2 _ rfl
  have hg : (c != 0) = true := by simpa using hc
  have hg2 : (c == 0) = false := by simpa using hc
  clear M hc
  go_enter Try.func64, Try.ntmps64
  go_wp2_with fail
  go_quiet (fail)
  go_wp2_with fail
  go_ret
  exact ⟨rfl, below_drewN (Below.refl _ _) _⟩
set_option maxRecDepth 100000 in
set_option maxHeartbeats 3200000 in
theorem s_prefixR_yes (b : Nat) (s : ByteArray) (p : Nat) (l : Int) (D : List Int) (w : World) (hs : s.size ≤ 1000) (hC : (sbs s).drop p = l :: D) (hl : l ≤ 32) (hD : need l ≤ D.length) (M : Mut w b [.string s, .int .i64 p, .int .i64 0]) :
    Calls Try.prog 104 #[.pointer (some ⟨b, 0, none⟩)] w fun e w' => e = .returned (.agg #[.int .i64 (val (D.take (need l)) * 2 ^ (32 - 8 * need l)), .int .i64 l]) ∧ Mut w' b [.string s, .int .i64 (p + 1 + need l : Nat), .int .i64 0] ∧ Only b w w' := by
  have hlen : s.size = p + 1 + D.length := by
    have := congrArg List.length hC
    rw [List.length_drop, sbs_len, List.length_cons] at this
    omega
  have hl0 : 0 ≤ l := (sbs_byte s l (List.mem_of_mem_drop (by rw [hC]; simp))).1
  have hm := need_le hl0 hl
  have hq : (l + 7).tdiv 8 = (need l : Int) := by rw [Int.tdiv_eq_ediv_of_nonneg (by omega)]; exact need_eq hl0
  have s1 := hide (fun w M => s_number_yes b s p 1 w hs (by omega) (by omega) M)
  have e1 : val (((sbs s).drop p).take 1) = l := by rw [hC]; simp [val]
  rw [e1] at s1
  have s2 := hide (fun w M => s_number_yes b s (p + 1) (need l) w hs hm (by omega) M)
  have e2 : (sbs s).drop (p + 1) = D := by rw [← List.drop_drop, hC]; rfl
  rw [e2] at s2
  obtain ⟨v0, v1⟩ := val_bd (D.take (need l)) (fun x hx => sbs_byte s x (List.mem_of_mem_drop (by rw [hC]; exact List.mem_cons_of_mem _ (List.mem_of_mem_take hx))))
  rw [List.length_take, Nat.min_eq_left hD] at v1
  have hbd : val (D.take (need l)) * 2 ^ (32 - 8 * need l) < 4294967296 := by
    have h1 : (256 : Int) ^ need l * 2 ^ (32 - 8 * need l) = 4294967296 := by
      rw [show (256 : Int) = 2 ^ 8 from rfl, ← Int.pow_mul, ← Int.pow_add, show 8 * need l + (32 - 8 * need l) = 32 by omega]; rfl
    have h2 : (0 : Int) < 2 ^ (32 - 8 * need l) := Int.pow_pos (by decide)
    have := Int.mul_lt_mul_of_pos_right v1 h2
    omega
  have hbd0 : 0 ≤ val (D.take (need l)) * 2 ^ (32 - 8 * need l) := Int.mul_nonneg v0 (Int.pow_nonneg (by decide))
  clear e1 e2 hC hD hlen v1
  generalize val (D.take (need l)) = n at *
  generalize need l = m at *
  have hs0 : ¬ (32 - 8 * (m : Int) < 0) := by omega
  have hlb := M.1
  have N2 := Mut.new w #[.int .i64 0, .int .i64 0] 122
  have M := M.alloc (.cells #[.int .i64 0, .int .i64 0] 122)
  have d : Only b w (w.alloc (.cells #[.int .i64 0, .int .i64 0] 122)) := (Only.refl b w).alloc _
  go_enter Try.func104, Try.ntmps104
  go_wp2_with fail
  generalize w.alloc (.cells #[.int .i64 0, .int .i64 0] 122) = w1 at *
  refine (s1.out _ M).mono ?_
  rintro e w2 ⟨rfl, M2, o2⟩
  have N2 := N2.only o2 (by omega)
  have d2 := d.trans o2
  clear o2 d M
  have hn23 := N2.1
  have N3 := Mut.new w2 #[.int .i64 0, .int .i64 l] 122
  have N2 := N2.alloc (.cells #[.int .i64 0, .int .i64 l] 122)
  have hl2 := M2.1
  have M2 := M2.alloc (.cells #[.int .i64 0, .int .i64 l] 122)
  have d3 : Only b w (w2.alloc (.cells #[.int .i64 0, .int .i64 l] 122)) := d2.alloc _
  have q2 := M2.2.1 2 _ rfl
  go_wp2_with fail
  generalize w2.alloc (.cells #[.int .i64 0, .int .i64 l] 122) = w3 at *
  generalize w2.heap.size = c at *
  refine (s2.out _ M2).mono ?_
  rintro e w4 ⟨rfl, M4, o4⟩
  have N2 := N2.only o4 (by omega)
  have N3 := N3.only o4 (by omega)
  have d4 := d3.trans o4
  clear o4 d3 M2 d2 q2
  have q2 := M4.2.1 2 _ rfl
  have y0 := N3.2.1 0 _ rfl
  have y1 := N3.2.1 1 _ rfl
  have f0 := N3.2.2 0 (by simp)
  have x0 := N2.2.1 0 _ rfl
  have x1 := N2.2.1 1 _ rfl
  have g0 := N2.2.2 0 (by simp)
  have g1 := N2.2.2 1 (by simp)
  go_wp2_with fail
  generalize n * 2 ^ (32 - 8 * m) = X at *
  exact bodyPost_ret (v := .agg #[.int .i64 X, .int .i64 l]) (by simp [results, Try.results104, go_sem, *]) rfl ⟨rfl, ((M4.other (by omega) _ _).other (by omega) _ _).other (by omega) _ _, ((d4.setNew (by omega) _ _).setNew (by omega) _ _).setNew (by omega) _ _⟩
set_option maxRecDepth 100000 in
set_option maxHeartbeats 3200000 in
theorem s_prefixR_empty (b : Nat) (s : ByteArray) (p : Nat) (w : World) (hs : s.size ≤ 1000) (hC : p = s.size) (M : Mut w b [.string s, .int .i64 p, .int .i64 0]) :
    Calls Try.prog 104 #[.pointer (some ⟨b, 0, none⟩)] w fun e w' => ∃ a' l' p' : Int, e = .returned (.agg #[.int .i64 a', .int .i64 l']) ∧ Mut w' b [.string s, .int .i64 p', .int .i64 1] ∧ Only b w w' := by
  have s1 := hide (fun w M => s_number_short b s p 1 w hs (by omega) (by omega) (by omega) M)
  have hlb := M.1
  have N2 := Mut.new w #[.int .i64 0, .int .i64 0] 122
  have M := M.alloc (.cells #[.int .i64 0, .int .i64 0] 122)
  have d : Only b w (w.alloc (.cells #[.int .i64 0, .int .i64 0] 122)) := (Only.refl b w).alloc _
  go_enter Try.func104, Try.ntmps104
  go_wp2_with fail
  generalize w.alloc (.cells #[.int .i64 0, .int .i64 0] 122) = w1 at *
  refine (s1.out _ M).mono ?_
  rintro e w2 ⟨rfl, M2, o2⟩
  have N2 := N2.only o2 (by omega)
  have d2 := d.trans o2
  clear o2 d M
  have hn23 := N2.1
  have N3 := Mut.new w2 #[.int .i64 0, .int .i64 0] 122
  have N2 := N2.alloc (.cells #[.int .i64 0, .int .i64 0] 122)
  have hl2 := M2.1
  have M2 := M2.alloc (.cells #[.int .i64 0, .int .i64 0] 122)
  have d3 : Only b w (w2.alloc (.cells #[.int .i64 0, .int .i64 0] 122)) := d2.alloc _
  have q2 := M2.2.1 2 _ rfl
  have z2 := M2.2.2 2 (by simp)
  go_wp2_with fail
  generalize w2.alloc (.cells #[.int .i64 0, .int .i64 0] 122) = w3 at *
  generalize w2.heap.size = c at *
  have s2 := hide (fun w M => s_number_bad b s (p : Int) 1 0 w (by decide) M)
  refine (s2.out _ M2).mono ?_
  rintro e w4 ⟨rfl, b4⟩
  have N2 := N2.below b4
  have N3 := N3.below b4
  have M4 := M2.below b4
  have d4 := d3.trans (Only.of_below b4)
  clear b4 d3 M2 d2 q2
  have q2 := M4.2.1 2 _ rfl
  have y0 := N3.2.1 0 _ rfl
  have y1 := N3.2.1 1 _ rfl
  have x0 := N2.2.1 0 _ rfl
  have x1 := N2.2.1 1 _ rfl
  have g0 := N2.2.2 0 (by simp)
  have g1 := N2.2.2 1 (by simp)
  go_wp2_with fail
  exact bodyPost_ret (v := .agg #[.int .i64 0, .int .i64 0]) (by simp [results, Try.results104, go_sem, *]) rfl ⟨_, _, _, rfl, (M4.other (by omega) _ _).other (by omega) _ _, (d4.setNew (by omega) _ _).setNew (by omega) _ _⟩
set_option maxRecDepth 100000 in
set_option maxHeartbeats 3200000 in
theorem s_prefixR_short (b : Nat) (s : ByteArray) (p : Nat) (l : Int) (D : List Int) (w : World) (hs : s.size ≤ 1000) (hC : (sbs s).drop p = l :: D) (hl : l ≤ 32) (hD : D.length < need l) (M : Mut w b [.string s, .int .i64 p, .int .i64 0]) :
    Calls Try.prog 104 #[.pointer (some ⟨b, 0, none⟩)] w fun e w' => ∃ a' l' p' : Int, e = .returned (.agg #[.int .i64 a', .int .i64 l']) ∧ Mut w' b [.string s, .int .i64 p', .int .i64 1] ∧ Only b w w' := by
  have hlen : s.size = p + 1 + D.length := by
    have := congrArg List.length hC
    rw [List.length_drop, sbs_len, List.length_cons] at this
    omega
  have hl0 : 0 ≤ l := (sbs_byte s l (List.mem_of_mem_drop (by rw [hC]; simp))).1
  have s1 := hide (fun w M => s_number_yes b s p 1 w hs (by omega) (by omega) M)
  have e1 : val (((sbs s).drop p).take 1) = l := by rw [hC]; simp [val]
  rw [e1] at s1
  have hm := need_le hl0 hl
  have hq : (l + 7).tdiv 8 = (need l : Int) := by rw [Int.tdiv_eq_ediv_of_nonneg (by omega)]; exact need_eq hl0
  have s2 := hide (fun w M => s_number_short b s (p + 1) (need l) w hs hm (by omega) (by omega) M)
  clear e1 hC hD hlen
  generalize need l = m at *
  have hlb := M.1
  have N2 := Mut.new w #[.int .i64 0, .int .i64 0] 122
  have M := M.alloc (.cells #[.int .i64 0, .int .i64 0] 122)
  have d : Only b w (w.alloc (.cells #[.int .i64 0, .int .i64 0] 122)) := (Only.refl b w).alloc _
  go_enter Try.func104, Try.ntmps104
  go_wp2_with fail
  generalize w.alloc (.cells #[.int .i64 0, .int .i64 0] 122) = w1 at *
  refine (s1.out _ M).mono ?_
  rintro e w2 ⟨rfl, M2, o2⟩
  have N2 := N2.only o2 (by omega)
  have d2 := d.trans o2
  clear o2 d M
  have hn23 := N2.1
  have N3 := Mut.new w2 #[.int .i64 0, .int .i64 l] 122
  have N2 := N2.alloc (.cells #[.int .i64 0, .int .i64 l] 122)
  have hl2 := M2.1
  have M2 := M2.alloc (.cells #[.int .i64 0, .int .i64 l] 122)
  have d3 : Only b w (w2.alloc (.cells #[.int .i64 0, .int .i64 l] 122)) := d2.alloc _
  have q2 := M2.2.1 2 _ rfl
  have z2 := M2.2.2 2 (by simp)
  go_wp2_with fail
  generalize w2.alloc (.cells #[.int .i64 0, .int .i64 l] 122) = w3 at *
  generalize w2.heap.size = c at *
  refine (s2.out _ M2).mono ?_
  rintro e w4 ⟨rfl, M4, o4⟩
  have N2 := N2.only o4 (by omega)
  have N3 := N3.only o4 (by omega)
  have d4 := d3.trans o4
  clear o4 d3 M2 d2 q2
  have q2 := M4.2.1 2 _ rfl
  have y0 := N3.2.1 0 _ rfl
  have y1 := N3.2.1 1 _ rfl
  have x0 := N2.2.1 0 _ rfl
  have x1 := N2.2.1 1 _ rfl
  have g0 := N2.2.2 0 (by simp)
  have g1 := N2.2.2 1 (by simp)
  go_wp2_with fail
  exact bodyPost_ret (v := .agg #[.int .i64 0, .int .i64 l]) (by simp [results, Try.results104, go_sem, *]) rfl ⟨_, _, _, rfl, (M4.other (by omega) _ _).other (by omega) _ _, (d4.setNew (by omega) _ _).setNew (by omega) _ _⟩
set_option maxRecDepth 100000 in
set_option maxHeartbeats 3200000 in
theorem s_prefixR_big (b : Nat) (s : ByteArray) (p : Nat) (l : Int) (D : List Int) (w : World) (hs : s.size ≤ 1000) (hC : (sbs s).drop p = l :: D) (hl : l > 32) (M : Mut w b [.string s, .int .i64 p, .int .i64 0]) :
    Calls Try.prog 104 #[.pointer (some ⟨b, 0, none⟩)] w fun e w' => ∃ a' l' p' : Int, e = .returned (.agg #[.int .i64 a', .int .i64 l']) ∧ Mut w' b [.string s, .int .i64 p', .int .i64 3] ∧ Only b w w' := by
  have hlen : s.size = p + 1 + D.length := by
    have := congrArg List.length hC
    rw [List.length_drop, sbs_len, List.length_cons] at this
    omega
  have hl0 : 0 ≤ l := (sbs_byte s l (List.mem_of_mem_drop (by rw [hC]; simp))).1
  have s1 := hide (fun w M => s_number_yes b s p 1 w hs (by omega) (by omega) M)
  have e1 : val (((sbs s).drop p).take 1) = l := by rw [hC]; simp [val]
  rw [e1] at s1
  have hl1 : l < 256 := (sbs_byte s l (List.mem_of_mem_drop (by rw [hC]; simp))).2
  clear e1 hC hlen
  have hlb := M.1
  have N2 := Mut.new w #[.int .i64 0, .int .i64 0] 122
  have M := M.alloc (.cells #[.int .i64 0, .int .i64 0] 122)
  have d : Only b w (w.alloc (.cells #[.int .i64 0, .int .i64 0] 122)) := (Only.refl b w).alloc _
  go_enter Try.func104, Try.ntmps104
  go_wp2_with fail
  generalize w.alloc (.cells #[.int .i64 0, .int .i64 0] 122) = w1 at *
  refine (s1.out _ M).mono ?_
  rintro e w2 ⟨rfl, M2, o2⟩
  have N2 := N2.only o2 (by omega)
  have d2 := d.trans o2
  clear o2 d M
  have hn23 := N2.1
  have hl2 := M2.1
  have q2 := (M2.alloc (.cells #[.int .i64 0, .int .i64 l] 122)).2.1 2 _ rfl
  have z2 := (M2.alloc (.cells #[.int .i64 0, .int .i64 l] 122)).2.2 2 (by simp)
  go_wp2_with fail
  have s2 := hide (fun m w M => s_number_bad b s ((p + 1 : Nat) : Int) 3 m w (by decide) M)
  have hsz : (w2.setCell ⟨b, 2, none⟩ (.int .i64 3)).heap.size = w2.heap.size := by simp
  have M2 := M2.set 2 (.int .i64 3)
  have N2 := N2.other (c := b) (by omega) 2 (.int .i64 3)
  have d2 := d2.setCell 2 (.int .i64 3)
  have hl3 := M2.1
  have N3 := Mut.new (w2.setCell ⟨b, 2, none⟩ (.int .i64 3)) #[.int .i64 0, .int .i64 l] 122
  rw [hsz] at N3
  have M2 := M2.alloc (.cells #[.int .i64 0, .int .i64 l] 122)
  have N2 := N2.alloc (.cells #[.int .i64 0, .int .i64 l] 122)
  have d3 : Only b w ((w2.setCell ⟨b, 2, none⟩ (.int .i64 3)).alloc (.cells #[.int .i64 0, .int .i64 l] 122)) := d2.alloc _
  clear hsz hl3 z2
  generalize (w2.setCell ⟨b, 2, none⟩ (.int .i64 3)).alloc (.cells #[.int .i64 0, .int .i64 l] 122) = w5 at *
  generalize w2.heap.size = c at *
  refine (s2.out _ _ M2).mono ?_
  rintro e w4 ⟨rfl, b4⟩
  have N2 := N2.below b4
  have N3 := N3.below b4
  have M4 := M2.below b4
  have d4 := d3.trans (Only.of_below b4)
  clear b4 d3 M2 d2 q2
  have q2 := M4.2.1 2 _ rfl
  have y0 := N3.2.1 0 _ rfl
  have y1 := N3.2.1 1 _ rfl
  have x0 := N2.2.1 0 _ rfl
  have x1 := N2.2.1 1 _ rfl
  have g0 := N2.2.2 0 (by simp)
  have g1 := N2.2.2 1 (by simp)
  go_wp2_with fail
  exact bodyPost_ret (v := .agg #[.int .i64 0, .int .i64 l]) (by simp [results, Try.results104, go_sem, *]) rfl ⟨_, _, _, rfl, (M4.other (by omega) _ _).other (by omega) _ _, (d4.setNew (by omega) _ _).setNew (by omega) _ _⟩
end Go.Proofs.Ytoeephmdklmpfaa
