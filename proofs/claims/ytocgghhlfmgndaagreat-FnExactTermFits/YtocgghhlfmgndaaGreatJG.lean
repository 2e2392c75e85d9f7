/- Lists of whole numbers (of one kind) in memory: as they lie, and in memory of one's own; what append does with them. -/
import Derived.Test.YtocgghhlfmgndaaGreatJA
import Derived.Test.YtocgghhlfmgndaaGreatJB
import Derived.ChangeKeysEq
import Derived.Laws.AppendOwnNone
import Derived.Maps.AppendAt
import Derived.Deep.AppendLies
/- Rising lists of numbers, plain. -/
namespace Go.Proofs.YtocgghhlfmgndaaGreat

def hasN (l : List Int) (x : Int) : Bool := l.any (· == x)
theorem hasN_iff {l : List Int} {x : Int} : hasN l x = true ↔ x ∈ l := by simp [hasN]
def putN : List Int → Int → List Int
  | [], n => [n]
  | a :: l, n => if a < n then a :: putN l n else if a = n then a :: l else n :: a :: l
def UpN (l : List Int) : Prop := l.Pairwise (· < ·)
def InN (l : List Int) : Prop := ∀ x ∈ l, 0 ≤ x ∧ x < 80
theorem mem_put (l : List Int) (n x : Int) : x ∈ putN l n ↔ x = n ∨ x ∈ l := by
  induction l with
  | nil => simp [putN]
  | cons a l ih =>
    unfold putN
    split
    · rw [List.mem_cons, ih, List.mem_cons]
      constructor
      · rintro (h | h | h)
        · exact .inr (.inl h)
        · exact .inl h
        · exact .inr (.inr h)
      · rintro (h | h | h)
        · exact .inr (.inl h)
        · exact .inl h
        · exact .inr (.inr h)
    · split
      · rename_i e
        rw [List.mem_cons]
        constructor
        · exact .inr
        · rintro (h | h)
          · exact .inl (h.trans e.symm)
          · exact h
      · rw [List.mem_cons]
theorem up_put {l : List Int} (n : Int) (h : UpN l) : UpN (putN l n) := by
  induction l with
  | nil => simp [putN, UpN]
  | cons a l ih =>
    unfold UpN at h ih ⊢
    rw [List.pairwise_cons] at h
    unfold putN
    split
    · rename_i ha
      rw [List.pairwise_cons]
      refine ⟨fun x hx => ?_, ih h.2⟩
      rcases (mem_put l n x).1 hx with rfl | hx
      · exact ha
      · exact h.1 x hx
    · split
      · exact List.pairwise_cons.2 h
      · rename_i h1 h2
        refine List.pairwise_cons.2 ⟨fun x hx => ?_, List.pairwise_cons.2 h⟩
        rcases List.mem_cons.1 hx with rfl | hx
        · omega
        · have := h.1 x hx
          omega
theorem in_put {l : List Int} {n : Int} (h : InN l) (hn : 0 ≤ n ∧ n < 80) : InN (putN l n) := by
  intro x hx
  rcases (mem_put l n x).1 hx with rfl | hx
  · exact hn
  · exact h x hx
theorem put_len (l : List Int) (n : Int) : putN l n = l ∨ (putN l n).length = l.length + 1 := by
  induction l with
  | nil => exact .inr rfl
  | cons a l ih =>
    unfold putN
    split
    · rcases ih with h | h
      · exact .inl (by rw [h])
      · exact .inr (by simp [h])
    · split
      · exact .inl rfl
      · exact .inr (by simp)
theorem up_len {l : List Int} {a b : Int} (hu : UpN l) (hi : ∀ x ∈ l, a ≤ x ∧ x < b) (hab : a ≤ b) : (l.length : Int) ≤ b - a := by
  induction l generalizing a with
  | nil => simp; omega
  | cons c l ih =>
    unfold UpN at hu ih
    rw [List.pairwise_cons] at hu
    have hc := hi c (List.mem_cons_self ..)
    have k := ih (a := c + 1) hu.2 (fun x hx => ⟨by have := hu.1 x hx; omega, (hi x (List.mem_cons_of_mem _ hx)).2⟩) (by omega)
    rw [List.length_cons]
    omega
theorem in_len {l : List Int} (hu : UpN l) (hi : InN l) : l.length ≤ 80 := by
  have := up_len hu hi (by omega)
  omega
end Go.Proofs.YtocgghhlfmgndaaGreat

/- Which rows of a path a pattern takes, plain. -/
namespace Go.Proofs.YtocgghhlfmgndaaGreat

/-- As often as may be. -/
inductive StarR (R : Nat → Nat → Prop) (i : Nat) : Nat → Prop where
  | refl : StarR R i i
  | step {m j : Nat} : StarR R i m → R m j → StarR R i j
/-- What stands between two places of a path is a row of a pattern. -/
def Mt (P : List Int) : Re → Nat → Nat → Prop
  | .non => fun _ _ => False
  | .emp => fun i j => i = j
  | .one n => fun i j => j = i + 1 ∧ i < P.length ∧ P.getD i 0 = n
  | .any => fun i j => j = i + 1 ∧ i < P.length
  | .thn a b => fun i j => ∃ m, Mt P a i m ∧ Mt P b m j
  | .alt a b => fun i j => Mt P a i j ∨ Mt P b i j
  | .str a => StarR (Mt P a)
theorem star_le {R : Nat → Nat → Prop} (h : ∀ i j, R i j → i ≤ j) {i j : Nat} (s : StarR R i j) : i ≤ j := by
  induction s with
  | refl => exact Nat.le_refl _
  | step _ r ih => exact Nat.le_trans ih (h _ _ r)
theorem star_bd {R : Nat → Nat → Prop} {n : Nat} (h : ∀ i j, R i j → i ≤ n → j ≤ n) {i j : Nat} (s : StarR R i j) (hi : i ≤ n) : j ≤ n := by
  induction s with
  | refl => exact hi
  | step _ r ih => exact h _ _ r ih
theorem mt_le {P : List Int} (t : Re) : ∀ i j, Mt P t i j → i ≤ j := by
  induction t with
  | non => exact fun _ _ h => h.elim
  | emp => exact fun _ _ h => Nat.le_of_eq h
  | one n => exact fun i j h => by have := h.1; omega
  | any => exact fun i j h => by have := h.1; omega
  | thn a b ha hb => rintro i j ⟨m, h1, h2⟩; exact Nat.le_trans (ha _ _ h1) (hb _ _ h2)
  | alt a b ha hb => rintro i j (h | h); exact ha _ _ h; exact hb _ _ h
  | str a ha => exact fun i j h => star_le ha h
theorem mt_bd {P : List Int} (t : Re) : ∀ i j, Mt P t i j → i ≤ P.length → j ≤ P.length := by
  induction t with
  | non => exact fun _ _ h => h.elim
  | emp => exact fun _ _ h hi => by rw [← show _ = _ from h]; exact hi
  | one n => exact fun i j h _ => by have := h.1; have := h.2.1; omega
  | any => exact fun i j h _ => by have := h.1; have := h.2; omega
  | thn a b ha hb => rintro i j ⟨m, h1, h2⟩ hi; exact hb _ _ h2 (ha _ _ h1 hi)
  | alt a b ha hb => rintro i j (h | h) hi; exact ha _ _ h hi; exact hb _ _ h hi
  | str a ha => exact fun i j h hi => star_bd ha h hi
/-- What has each place, and with each what is one row behind it, has all that is reached. -/
theorem star_all {R : Nat → Nat → Prop} {i : Nat} {S : Nat → Prop} (h0 : S i) (h1 : ∀ m j, S m → R m j → S j) {j : Nat} (s : StarR R i j) : S j := by
  induction s with
  | refl => exact h0
  | step _ r ih => exact h1 _ _ ih r

/-- The ends of a pattern's rows from a place, as a rising list. -/
def Ends (R : Nat → Prop) (L : List Int) : Prop := ∀ x : Int, x ∈ L ↔ ∃ j : Nat, x = (j : Int) ∧ R j
theorem Ends.one (i : Nat) : Ends (fun j => j = i) [(i : Int)] := fun x => by
  rw [List.mem_singleton]
  constructor
  · rintro rfl; exact ⟨i, rfl, rfl⟩
  · rintro ⟨j, rfl, rfl⟩; rfl
theorem Ends.nil {R : Nat → Prop} (h : ∀ j, ¬ R j) : Ends R [] := fun x => by
  constructor
  · exact fun h => absurd h List.not_mem_nil
  · rintro ⟨j, _, r⟩; exact absurd r (h j)
theorem Ends.congr {R S : Nat → Prop} {L : List Int} (h : Ends R L) (e : ∀ j, R j ↔ S j) : Ends S L := fun x => by
  rw [h x]
  constructor
  · rintro ⟨j, a, b⟩; exact ⟨j, a, (e j).1 b⟩
  · rintro ⟨j, a, b⟩; exact ⟨j, a, (e j).2 b⟩
theorem Ends.has {R : Nat → Prop} {L : List Int} (h : Ends R L) (j : Nat) : hasN L (j : Int) = true ↔ R j := by
  rw [hasN_iff, h]
  constructor
  · rintro ⟨i, e, r⟩; rw [show j = i by omega]; exact r
  · exact fun r => ⟨j, rfl, r⟩
/-- All of a list are put to another one. -/
def putAll (o L : List Int) : List Int := L.foldl putN o
theorem mem_putAll (L : List Int) : ∀ (o : List Int) (x : Int), x ∈ putAll o L ↔ x ∈ o ∨ x ∈ L := by
  induction L with
  | nil => intro o x; simp [putAll]
  | cons a L ih =>
    intro o x
    show x ∈ putAll (putN o a) L ↔ _
    rw [ih, mem_put, List.mem_cons]
    constructor
    · rintro ((h | h) | h)
      · exact .inr (.inl h)
      · exact .inl h
      · exact .inr (.inr h)
    · rintro (h | h | h)
      · exact .inl (.inr h)
      · exact .inl (.inl h)
      · exact .inr h
theorem putAll_ok {L : List Int} (hL : InN L) : ∀ {o : List Int}, UpN o → InN o → UpN (putAll o L) ∧ InN (putAll o L) := by
  induction L with
  | nil => exact fun hu hi => ⟨hu, hi⟩
  | cons a L ih =>
    intro o hu hi
    exact ih (fun x hx => hL x (List.mem_cons_of_mem _ hx)) (up_put a hu) (in_put hi (hL a (List.mem_cons_self ..)))
theorem putAll_len (L : List Int) : ∀ o : List Int, putAll o L = o ∨ o.length < (putAll o L).length := by
  induction L with
  | nil => exact fun o => .inl rfl
  | cons a L ih =>
    intro o
    show putAll (putN o a) L = o ∨ _ < (putAll (putN o a) L).length
    rcases put_len o a with e | e
    · rw [e]; exact ih o
    · rcases ih (putN o a) with k | k
      · rw [k]; exact .inr (by omega)
      · exact .inr (by omega)
theorem putAll_take {o L : List Int} {k : Nat} (h : k < L.length) : putAll o (L.take (k + 1)) = putN (putAll o (L.take k)) (L.getD k 0) := by
  unfold putAll
  rw [List.take_add_one, List.getElem?_eq_getElem h, List.foldl_append, List.getD_eq_getElem?_getD, List.getElem?_eq_getElem h]
  rfl

/-- The list holds the ends of rows from a place. -/
def EndS (R : Nat → Prop) (L : List Int) : Prop := UpN L ∧ InN L ∧ Ends R L
/-- What is reached from the first k of a list. -/
def InU (R : Nat → Nat → Prop) (L1 : List Int) (k : Nat) (x : Int) : Prop := ∃ i, i < k ∧ ∃ j : Nat, x = (j : Int) ∧ R (L1.getD i 0).toNat j
theorem inU_zero {R : Nat → Nat → Prop} {L1 : List Int} (x : Int) : ¬ InU R L1 0 x := by rintro ⟨i, h, _⟩; omega
theorem inU_step {R : Nat → Nat → Prop} {L1 L2 : List Int} {k : Nat} (h2 : Ends (R (L1.getD k 0).toNat) L2) (x : Int) : InU R L1 (k + 1) x ↔ InU R L1 k x ∨ x ∈ L2 := by
  constructor
  · rintro ⟨i, hi, j, hx, hr⟩
    by_cases e : i = k
    · subst e; exact .inr ((h2 x).2 ⟨j, hx, hr⟩)
    · exact .inl ⟨i, by omega, j, hx, hr⟩
  · rintro (⟨i, hi, j, hx, hr⟩ | h)
    · exact ⟨i, by omega, j, hx, hr⟩
    · obtain ⟨j, hx, hr⟩ := (h2 x).1 h
      exact ⟨k, by omega, j, hx, hr⟩
theorem getD_mem {L : List Int} {i : Nat} (h : i < L.length) : L.getD i 0 ∈ L := by
  rw [List.getD_eq_getElem?_getD, List.getElem?_eq_getElem h]
  exact List.getElem_mem h
theorem mem_getD {L : List Int} {x : Int} (h : x ∈ L) : ∃ i, i < L.length ∧ L.getD i 0 = x := by
  obtain ⟨i, hi, e⟩ := List.mem_iff_getElem.1 h
  exact ⟨i, hi, by rw [List.getD_eq_getElem?_getD, List.getElem?_eq_getElem hi]; exact e⟩
theorem inU_all {R : Nat → Nat → Prop} {S : Nat → Prop} {L1 : List Int} (h1 : Ends S L1) (x : Int) : InU R L1 L1.length x ↔ ∃ j : Nat, x = (j : Int) ∧ ∃ m, S m ∧ R m j := by
  constructor
  · rintro ⟨i, hi, j, hx, hr⟩
    obtain ⟨m, hm, hs⟩ := (h1 _).1 (getD_mem hi)
    rw [hm] at hr
    exact ⟨j, hx, m, hs, hr⟩
  · rintro ⟨j, hx, m, hs, hr⟩
    obtain ⟨i, hi, e⟩ := mem_getD ((h1 (m : Int)).2 ⟨m, rfl, hs⟩)
    exact ⟨i, hi, j, hx, by rw [e]; exact hr⟩
theorem ends_alt {R S : Nat → Prop} {L1 L2 : List Int} (h1 : EndS R L1) (h2 : EndS S L2) : EndS (fun j => R j ∨ S j) (putAll L1 L2) := by
  have k := putAll_ok h2.2.1 h1.1 h1.2.1
  refine ⟨k.1, k.2, fun x => ?_⟩
  rw [mem_putAll, h1.2.2 x, h2.2.2 x]
  constructor
  · rintro (⟨j, e, r⟩ | ⟨j, e, r⟩)
    · exact ⟨j, e, .inl r⟩
    · exact ⟨j, e, .inr r⟩
  · rintro ⟨j, e, r | r⟩
    · exact .inl ⟨j, e, r⟩
    · exact .inr ⟨j, e, r⟩
/-- A list that has its first place, only what is reached, and all that is one row behind it. -/
theorem ends_str {R : Nat → Nat → Prop} {i : Nat} {L : List Int} (hu : UpN L) (hi : InN L) (h0 : (i : Int) ∈ L) (h1 : ∀ x ∈ L, ∃ j : Nat, x = (j : Int) ∧ StarR R i j) (h2 : ∀ x, InU R L L.length x → x ∈ L) : EndS (StarR R i) L := by
  refine ⟨hu, hi, fun x => ⟨h1 x, ?_⟩⟩
  rintro ⟨j, rfl, s⟩
  refine star_all (S := fun j => (j : Int) ∈ L) h0 (fun m j hm hr => h2 _ ?_) s
  obtain ⟨k, hk, e⟩ := mem_getD hm
  exact ⟨k, hk, j, rfl, by rw [e]; exact hr⟩

/-- The flags of spans: which cells, how many. -/
def cntF (f : Nat → Nat → Bool) : Nat := (List.range 121).countP (fun k => f (k / 11) (k % 11))
theorem count_lt {p q : Nat → Bool} {L : List Nat} (h : ∀ x, p x = true → q x = true) : (∃ x ∈ L, q x = true ∧ p x = false) → L.countP p < L.countP q := by
  induction L with
  | nil => rintro ⟨x, hx, _⟩; exact absurd hx List.not_mem_nil
  | cons a L ih =>
    rintro ⟨x, hx, h1, h2⟩
    have hle : L.countP p ≤ L.countP q := List.countP_mono_left (fun x _ => h x)
    rw [List.countP_cons, List.countP_cons]
    rcases List.mem_cons.1 hx with rfl | hx
    · rw [h1, h2]; simp; omega
    · have k := ih ⟨x, hx, h1, h2⟩
      cases ha : p a with
      | true => rw [h a ha]; simp; omega
      | false => simp only [Bool.false_eq_true, if_false]; omega
theorem cntF_le (f : Nat → Nat → Bool) : cntF f ≤ 121 := by
  have := List.countP_le_length (p := fun k => f (k / 11) (k % 11)) (l := List.range 121)
  simpa [cntF] using this
theorem cntF_lt {f g : Nat → Nat → Bool} (h : ∀ i j, f i j = true → g i j = true) {i j : Nat} (hi : i < 11) (hj : j < 11) (h1 : g i j = true) (h2 : f i j = false) : cntF f < cntF g := by
  refine count_lt (fun x => h _ _) ⟨i * 11 + j, List.mem_range.2 (by omega), ?_, ?_⟩
  · show g ((i * 11 + j) / 11) ((i * 11 + j) % 11) = true
    rw [show (i * 11 + j) / 11 = i by omega, show (i * 11 + j) % 11 = j by omega]; exact h1
  · show f ((i * 11 + j) / 11) ((i * 11 + j) % 11) = false
    rw [show (i * 11 + j) / 11 = i by omega, show (i * 11 + j) % 11 = j by omega]; exact h2
end Go.Proofs.YtocgghhlfmgndaaGreat

namespace Go.Proofs.YtocgghhlfmgndaaGreat
open Go.RowKit

def ncells (k : IntKind) (L : List Int) : List Value := L.map (.int k)
theorem nc_len (k : IntKind) (L : List Int) : (ncells k L).length = L.length := by simp [ncells]
theorem nc_app (k : IntKind) (L M : List Int) : ncells k (L ++ M) = ncells k L ++ ncells k M := by simp [ncells]
theorem nc_one (k : IntKind) (L : List Int) : ∀ u ∈ ncells k L, u.oneCell' = true := by
  intro u hu
  simp only [ncells, List.mem_map] at hu
  obtain ⟨x, _, rfl⟩ := hu
  rfl
theorem nc_at (k : IntKind) {L : List Int} {i : Nat} (h : i < L.length) : (ncells k L)[i]? = some (.int k (L.getD i 0)) := by
  simp [ncells, List.getElem?_eq_getElem h]

/-- The numbers L lie at a. -/
def RowN (k : IntKind) (a : Option Addr) (L : List Int) (w : World) : Prop := ∀ i, i < L.length → ∃ b off, a = some ⟨b, off, none⟩ ∧ b < w.heap.size ∧ w.cell? ⟨b, off + i, none⟩ = some (.int k (L.getD i 0))
theorem RowN.below {k : IntKind} {a : Option Addr} {L : List Int} {w w' : World} (h : RowN k a L w) (hb : Below w.heap.size w w') : RowN k a L w' := by
  intro i hi
  obtain ⟨b, off, ha, hlt, h0⟩ := h i hi
  exact ⟨b, off, ha, Nat.lt_of_lt_of_le hlt hb.size, ((bcell hb).1 _ _ hlt).trans h0⟩
theorem RowN.base {k : IntKind} {a : Option Addr} {base : Nat} {L : List Int} {w w' : World} (h : RowN k a L w) (hb : ∀ b off, a = some ⟨b, off, none⟩ → b < base) (d : Below base w w') : RowN k a L w' := by
  intro i hi
  obtain ⟨b, off, ha, hlt, h0⟩ := h i hi
  exact ⟨b, off, ha, Nat.lt_of_lt_of_le hlt d.size, (d.cell (p := ⟨b, off + i, none⟩) (hb b off ha)).trans h0⟩
theorem RowN.nil (k : IntKind) (a : Option Addr) (w : World) : RowN k a [] w := fun _ hi => absurd hi (Nat.not_lt_zero _)
theorem RowN.take {k : IntKind} {a : Option Addr} {L : List Int} {w : World} (h : RowN k a L w) (n : Nat) : RowN k a (L.take n) w := by
  intro i hi
  rw [List.length_take] at hi
  obtain ⟨b, off, ha, hlt, h0⟩ := h i (by omega)
  refine ⟨b, off, ha, hlt, ?_⟩
  rw [h0]
  congr 2
  rw [List.getD_eq_getElem?_getD, List.getD_eq_getElem?_getD, List.getElem?_take]
  rw [if_pos (by omega)]
theorem RowN.cells {k : IntKind} {b off : Nat} {L : List Int} {w : World} (h : RowN k (some ⟨b, off, none⟩) L w) : ∀ j u, (ncells k L)[j]? = some u → w.cell? ((⟨b, off, none⟩ : Addr).add j) = some u := by
  intro j u hu
  have hj : j < L.length := by
    have := (List.getElem?_eq_some_iff.1 hu).1
    rwa [nc_len] at this
  obtain ⟨b', off', ha, _, h0⟩ := h j hj
  simp only [Option.some.injEq, Addr.mk.injEq, and_true] at ha
  obtain ⟨rfl, rfl⟩ := ha
  rw [nc_at k hj] at hu
  have hadd : (⟨b, off, none⟩ : Addr).add j = ⟨b, off + j, none⟩ := by
    simp only [Addr.add]
    split
    · rename_i h; rw [h]; simp
    · rfl
  rw [hadd, h0]
  exact hu

/-- The list L lies in memory of one's own. -/
def OwnN (e : TypeId) (k : IntKind) (base : Nat) (v : Value) (L : List Int) (w : World) : Prop := w.ownsRow base e 1 v L.length (ncells k L)
theorem ownN_nil (e : TypeId) (k : IntKind) (base : Nat) (w : World) : OwnN e k base (.slice none 0 0) [] w := World.ownsRow_nil w base e 1
theorem ownN_below {e : TypeId} {k : IntKind} {w w' : World} {base : Nat} {v : Value} {L : List Int} (h : OwnN e k base v L w) (hb : Below w.heap.size w w') : OwnN e k base v L w' :=
  World.ownsRow.kept h (row := none) ⟨hb.os, hb.tape, hb.output, hb.size, fun k hk _ => hb.block k hk⟩ (by cases hv : v.ownBlock with
    | none => exact .inl rfl
    | some b => exact .inr (by simp))
theorem ownN_base {e : TypeId} {k : IntKind} {w : World} {base base' : Nat} {v : Value} {L : List Int} (h : OwnN e k base v L w) (hb : base' ≤ base) : OwnN e k base' v L w := by
  refine ⟨h.1, ?_⟩
  rcases h.2 with h | ⟨g, cap, cur, h1, h2, h3⟩
  · exact .inl h
  · exact .inr ⟨g, cap, cur, h1, Nat.le_trans hb h2, h3⟩
theorem ownN_shape {e : TypeId} {k : IntKind} {w : World} {base : Nat} {v : Value} {L : List Int} (h : OwnN e k base v L w) (h0 : L ≠ []) : ∃ g cap, v = .slice (some ⟨g, 0, none⟩) L.length cap ∧ base ≤ g ∧ g < w.heap.size := by
  rcases h.2 with ⟨_, h1⟩ | ⟨g, cap, cur, rfl, hb, hg, _⟩
  · exact absurd (List.eq_nil_of_length_eq_zero h1) h0
  · exact ⟨g, cap, rfl, hb, (Array.getElem?_eq_some_iff.1 hg).1⟩
theorem ownN_at {e : TypeId} {k : IntKind} {w : World} {base g cap : Nat} {L : List Int} (h : OwnN e k base (.slice (some ⟨g, 0, none⟩) L.length cap) L w) {i : Nat} (hi : i < L.length) : w.cell? ⟨g, i, none⟩ = some (.int k (L.getD i 0)) :=
  (World.ownsRow.cellAt (show w.ownsRow base e 1 (.slice (some ⟨g, 0, none⟩) L.length cap) L.length (ncells k L) from h) i (by omega)).trans (nc_at k hi)
theorem ownN_row {e : TypeId} {k : IntKind} {w : World} {base : Nat} {v : Value} {L : List Int} (h : OwnN e k base v L w) : ∃ a cap, v = .slice a L.length cap ∧ RowN k a L w ∧ ((a = none ∧ cap = 0 ∧ L = []) ∨ ∃ g, a = some ⟨g, 0, none⟩ ∧ base ≤ g ∧ g < w.heap.size) := by
  by_cases h0 : L = []
  · subst h0
    rcases h.2 with ⟨rfl, h1⟩ | ⟨g, cap, cur, rfl, hb, hg, _⟩
    · exact ⟨none, 0, rfl, RowN.nil _ _ _, .inl ⟨rfl, rfl, rfl⟩⟩
    · exact ⟨some ⟨g, 0, none⟩, cap, rfl, RowN.nil _ _ _, .inr ⟨g, rfl, hb, (Array.getElem?_eq_some_iff.1 hg).1⟩⟩
  · obtain ⟨g, cap, rfl, hb, hg⟩ := ownN_shape h h0
    exact ⟨some ⟨g, 0, none⟩, cap, rfl, fun i hi => ⟨g, 0, rfl, hg, by rw [Nat.zero_add]; exact ownN_at h hi⟩, .inr ⟨g, rfl, hb, hg⟩⟩
theorem grown_belowN {e : TypeId} {k : IntKind} {w w' : World} {base : Nat} {v : Value} {L : List Int} (h : OwnN e k base v L w) (hg : w.grownBy w' v.ownBlock) (hb : base ≤ w.heap.size) : Below base w w' := by
  refine ⟨hg.os, hg.tape, hg.output, hg.size, fun k hk => hg.block k (by omega) (fun e => ?_)⟩
  rcases h.2 with ⟨rfl, _⟩ | ⟨g, cap, cur, rfl, hbg, _⟩
  · simp [Value.ownBlock] at e
  · simp [Value.ownBlock] at e
    omega
/-- A block that was made whole. -/
theorem ownN_made (e : TypeId) (k : IntKind) (w : World) (L : List Int) (hL : L.length ≤ maxLen) : OwnN e k w.heap.size (.slice (some ⟨w.heap.size, 0, none⟩) L.length L.length) L (w.alloc (.cells (ncells k L).toArray e)) :=
  ⟨by rw [nc_len, Nat.mul_one], .inr ⟨w.heap.size, L.length, (ncells k L).toArray, rfl, Nat.le_refl _, heap_alloc_new w _, Nat.le_refl _, hL, by simp [nc_len], by
    rw [Nat.mul_one, ← nc_len k L]
    simp⟩⟩

/-- A source of an append: nil, or at an address. -/
def SrcN (k : IntKind) (a : Option Addr) (M : List Int) (c : Nat) (w : World) : Prop := RowN k a M w ∧ ((a = none ∧ M = [] ∧ c = 0) ∨ ∃ b off, a = some ⟨b, off, none⟩)
theorem SrcN.below {k : IntKind} {a : Option Addr} {M : List Int} {c : Nat} {w w' : World} (h : SrcN k a M c w) (hb : Below w.heap.size w w') : SrcN k a M c w' := ⟨h.1.below hb, h.2⟩
theorem SrcN.own {e : TypeId} {k : IntKind} {w : World} {base : Nat} {v : Value} {L : List Int} (h : OwnN e k base v L w) : ∃ a cap, v = .slice a L.length cap ∧ SrcN k a L cap w := by
  obtain ⟨a, cap, h1, h2, h3⟩ := ownN_row h
  refine ⟨a, cap, h1, h2, ?_⟩
  rcases h3 with ⟨e1, e2, e3⟩ | ⟨g, e1, _⟩
  · exact .inl ⟨e1, e3, e2⟩
  · exact .inr ⟨g, 0, e1⟩

/-- What is known of a type of whole numbers. -/
def NumT (P : Program) (t e : TypeId) (k : IntKind) (bytes : Nat) : Prop := P.underlying t = some (.slice e) ∧ (P.info? e).map (fun i => (i.zero, i.size, i.bytes)) = some (some (.int k 0), 1, bytes)
theorem run_appN {P : Program} {t e : TypeId} {k : IntKind} {bytes : Nat} (hT : NumT P t e k bytes) (ty : TypeId) (w : World) (base : Nat) (v : Value) (L : List Int) (hown : OwnN e k base v L w) (sa : Option Addr) (M : List Int) (c : Nat) (hM : SrcN k sa M c w)
    (hlen : L.length + M.length ≤ 8589934593) (hby : bytes ≤ 8) (hbase : base ≤ w.heap.size) :
    ∃ v' w', (Builtin.append_ #[t, t] ty #[v, .slice sa M.length c]).run P w = .ok v' w' ∧ OwnN e k base v' (L ++ M) w' ∧ Below base w w' ∧ w.grownBy w' v.ownBlock ∧ (v'.ownBlock = v.ownBlock ∨ v'.ownBlock = some w.heap.size) := by
  obtain ⟨ht, hinfo⟩ := hT
  obtain ⟨i, hi, hz⟩ := Option.map_eq_some_iff.1 hinfo
  simp only [Prod.mk.injEq] at hz
  obtain ⟨hz0, hz1, hz2⟩ := hz
  have hnb : (L.length + M.length) * bytes ≤ 140737488355328 := by
    have := Nat.mul_le_mul_left (L.length + M.length) hby
    omega
  rcases hM with ⟨hR, ⟨rfl, rfl, rfl⟩ | ⟨b, off, rfl⟩⟩
  · have hrun := run_append_owned_none (P := P) (w := w) base t ty e i 1 ht hi v L.length (ncells k L) hown
    exact ⟨v, w, hrun, by simpa using hown, Below.refl _ _, ⟨rfl, rfl, rfl, Nat.le_refl _, fun _ _ _ => rfl⟩, .inl rfl⟩
  · obtain ⟨v', w', hr, h2, h3, _, h5⟩ := run_append_own_at (P := P) w base t ty e i (.int k 0) 1 bytes ht hi hz0 hz1 hz2 rfl (by decide) v L.length (ncells k L) hown ⟨b, off, none⟩ M.length c (ncells k M) (by rw [nc_len, Nat.mul_one]) hR.cells (nc_one k M) (by unfold maxLen; omega) hnb hbase
    refine ⟨v', w', hr, ?_, grown_belowN hown h3 hbase, h3, h5⟩
    unfold OwnN
    rw [nc_app, List.length_append]
    exact h2
theorem wp_appN {P : Program} {t e : TypeId} {k : IntKind} {bytes : Nat} (hT : NumT P t e k bytes) {o : Oper} {a : Act} {w : World} {K : Act → World → Prop} {Q : Exit → Act → World → Prop} (s x : Operand)
    (ho : o.op = .call { callee := .builtin .append, args := #[s, x], argTypes := #[t, t] })
    (base : Nat) (v : Value) (L : List Int) (hs : a.eval s = v) (hown : OwnN e k base v L w) (sa : Option Addr) (M : List Int) (n c : Nat) (hx : a.eval x = .slice sa n c) (hn : n = M.length) (hM : SrcN k sa M c w)
    (hlen : L.length + M.length ≤ 8589934593) (hby : bytes ≤ 8) (hbase : base ≤ w.heap.size)
    (h : ∀ v' w', OwnN e k base v' (L ++ M) w' → Below base w w' → w.grownBy w' v.ownBlock → (v'.ownBlock = v.ownBlock ∨ v'.ownBlock = some w.heap.size) → K (a.put o.dst v') w') : o.wp P a w K Q := by
  subst hn
  obtain ⟨v', w', hr, h2, h3, h4, h5⟩ := run_appN hT o.type w base v L hown sa M c hM hlen hby hbase
  unfold Oper.wp execOp
  simp only [ho, resolve, invoke, builtin, Sem.run_bind, Sem.run_pure, Result.andThen_ok, List.map_toArray, List.map_cons, List.map_nil, hs, hx, hr]
  exact h v' w' h2 h3 h4 h5
theorem wpList_appN {P : Program} {t e : TypeId} {k : IntKind} {bytes : Nat} (hT : NumT P t e k bytes) {ops : Array Oper} {rest : List Oper} {o : Oper} {a : Act} {w : World} {Q : Exit → Act → World → Prop} (hgd : o.guard = none) (s x : Operand)
    (ho : o.op = .call { callee := .builtin .append, args := #[s, x], argTypes := #[t, t] })
    (base : Nat) (v : Value) (L : List Int) (hs : a.eval s = v) (hown : OwnN e k base v L w) (sa : Option Addr) (M : List Int) (n c : Nat) (hx : a.eval x = .slice sa n c) (hn : n = M.length) (hM : SrcN k sa M c w)
    (hlen : L.length + M.length ≤ 8589934593) (hby : bytes ≤ 8) (hbase : base ≤ w.heap.size)
    (h : ∀ v' w', OwnN e k base v' (L ++ M) w' → Below base w w' → w.grownBy w' v.ownBlock → (v'.ownBlock = v.ownBlock ∨ v'.ownBlock = some w.heap.size) → wpList P ops Q rest (a.put o.dst v') w') : wpList P ops Q (o :: rest) a w :=
  wpList_plain hgd fun _ hK => wp_appN hT s x ho base v L hs hown sa M n c hx hn hM hlen hby hbase fun v' w' h2 h3 h4 h5 => hK _ _ (h v' w' h2 h3 h4 h5)
theorem step_appN {P : Program} {t e : TypeId} {k : IntKind} {bytes : Nat} (hT : NumT P t e k bytes) {ops : Array Oper} {o : Oper} {a : Act} {w : World} {K : Act → World → Prop} {Q : Exit → Act → World → Prop} {E : Prop} (hgd : o.guard = none) (s x : Operand)
    (ho : o.op = .call { callee := .builtin .append, args := #[s, x], argTypes := #[t, t] })
    (base : Nat) (v : Value) (L : List Int) (hs : a.eval s = v) (hown : OwnN e k base v L w) (sa : Option Addr) (M : List Int) (n c : Nat) (hx : a.eval x = .slice sa n c) (hn : n = M.length) (hM : SrcN k sa M c w)
    (hlen : L.length + M.length ≤ 8589934593) (hby : bytes ≤ 8) (hbase : base ≤ w.heap.size)
    (h : ∀ v' w', OwnN e k base v' (L ++ M) w' → Below base w w' → w.grownBy w' v.ownBlock → (v'.ownBlock = v.ownBlock ∨ v'.ownBlock = some w.heap.size) → K (a.put o.dst v') w') :
    if Region.wanted o (yielded ops a.tmps) = true then Oper.wp P o a w K Q else E := by
  have hw : Region.wanted o (yielded ops a.tmps) = true := by simp [Region.wanted, hgd]
  rw [if_pos hw]
  exact wp_appN hT s x ho base v L hs hown sa M n c hx hn hM hlen hby hbase h
theorem numByte : NumT Tryz.prog 75 5 .u8 1 := ⟨Tryz.underlying75, by kernel_rfl⟩
theorem numInt : NumT Tryz.prog 29 3 .i64 8 := ⟨Tryz.underlying29, by kernel_rfl⟩
end Go.Proofs.YtocgghhlfmgndaaGreat
