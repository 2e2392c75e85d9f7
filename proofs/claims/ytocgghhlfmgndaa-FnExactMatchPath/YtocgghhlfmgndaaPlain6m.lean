/- Which rows of a path a pattern takes, plain. -/
import Derived.Test.YtocgghhlfmgndaaPlain6r
namespace Go.Proofs.Ytocgghhlfmgndaa

/-- As often as may be. -/
inductive StarR (R : Nat → Nat → Prop) (i : Nat) : Nat → Prop where
  | refl : StarR R i i
  | step {m j : Nat} : StarR R i m → R m j → StarR R i j
/-- What stands between two places of a path is a row of a pattern. -/
def Mt (P : List Int) : Re → Nat → Nat → Prop
  | .non => fun _ _ => False
  | .emp => fun i j => i = j
  | .one n => fun i j => j = i + 1 ∧ i < P.length ∧ P.getD i 0 = n
  | .any => fun i j => j = i + 1 ∧ i < P.length
  | .thn a b => fun i j => ∃ m, Mt P a i m ∧ Mt P b m j
  | .alt a b => fun i j => Mt P a i j ∨ Mt P b i j
  | .str a => StarR (Mt P a)
theorem star_le {R : Nat → Nat → Prop} (h : ∀ i j, R i j → i ≤ j) {i j : Nat} (s : StarR R i j) : i ≤ j := by
  induction s with
  | refl => exact Nat.le_refl _
  | step _ r ih => exact Nat.le_trans ih (h _ _ r)
theorem star_bd {R : Nat → Nat → Prop} {n : Nat} (h : ∀ i j, R i j → i ≤ n → j ≤ n) {i j : Nat} (s : StarR R i j) (hi : i ≤ n) : j ≤ n := by
  induction s with
  | refl => exact hi
  | step _ r ih => exact h _ _ r ih
theorem mt_le {P : List Int} (t : Re) : ∀ i j, Mt P t i j → i ≤ j := by
  induction t with
  | non => exact fun _ _ h => h.elim
  | emp => exact fun _ _ h => Nat.le_of_eq h
  | one n => exact fun i j h => by have := h.1; omega
  | any => exact fun i j h => by have := h.1; omega
  | thn a b ha hb => rintro i j ⟨m, h1, h2⟩; exact Nat.le_trans (ha _ _ h1) (hb _ _ h2)
  | alt a b ha hb => rintro i j (h | h); exact ha _ _ h; exact hb _ _ h
  | str a ha => exact fun i j h => star_le ha h
theorem mt_bd {P : List Int} (t : Re) : ∀ i j, Mt P t i j → i ≤ P.length → j ≤ P.length := by
  induction t with
  | non => exact fun _ _ h => h.elim
  | emp => exact fun _ _ h hi => by rw [← show _ = _ from h]; exact hi
  | one n => exact fun i j h _ => by have := h.1; have := h.2.1; omega
  | any => exact fun i j h _ => by have := h.1; have := h.2; omega
  | thn a b ha hb => rintro i j ⟨m, h1, h2⟩ hi; exact hb _ _ h2 (ha _ _ h1 hi)
  | alt a b ha hb => rintro i j (h | h) hi; exact ha _ _ h hi; exact hb _ _ h hi
  | str a ha => exact fun i j h hi => star_bd ha h hi
/-- What has each place, and with each what is one row behind it, has all that is reached. -/
theorem star_all {R : Nat → Nat → Prop} {i : Nat} {S : Nat → Prop} (h0 : S i) (h1 : ∀ m j, S m → R m j → S j) {j : Nat} (s : StarR R i j) : S j := by
  induction s with
  | refl => exact h0
  | step _ r ih => exact h1 _ _ ih r

/-- The ends of a pattern's rows from a place, as a rising list. -/
def Ends (R : Nat → Prop) (L : List Int) : Prop := ∀ x : Int, x ∈ L ↔ ∃ j : Nat, x = (j : Int) ∧ R j
theorem Ends.one (i : Nat) : Ends (fun j => j = i) [(i : Int)] := fun x => by
  rw [List.mem_singleton]
  constructor
  · rintro rfl; exact ⟨i, rfl, rfl⟩
  · rintro ⟨j, rfl, rfl⟩; rfl
theorem Ends.nil {R : Nat → Prop} (h : ∀ j, ¬ R j) : Ends R [] := fun x => by
  constructor
  · exact fun h => absurd h List.not_mem_nil
  · rintro ⟨j, _, r⟩; exact absurd r (h j)
theorem Ends.congr {R S : Nat → Prop} {L : List Int} (h : Ends R L) (e : ∀ j, R j ↔ S j) : Ends S L := fun x => by
  rw [h x]
  constructor
  · rintro ⟨j, a, b⟩; exact ⟨j, a, (e j).1 b⟩
  · rintro ⟨j, a, b⟩; exact ⟨j, a, (e j).2 b⟩
theorem Ends.has {R : Nat → Prop} {L : List Int} (h : Ends R L) (j : Nat) : hasN L (j : Int) = true ↔ R j := by
  rw [hasN_iff, h]
  constructor
  · rintro ⟨i, e, r⟩; rw [show j = i by omega]; exact r
  · exact fun r => ⟨j, rfl, r⟩
/-- All of a list are put to another one. -/
def putAll (o L : List Int) : List Int := L.foldl putN o
theorem mem_putAll (L : List Int) : ∀ (o : List Int) (x : Int), x ∈ putAll o L ↔ x ∈ o ∨ x ∈ L := by
  induction L with
  | nil => intro o x; simp [putAll]
  | cons a L ih =>
    intro o x
    show x ∈ putAll (putN o a) L ↔ _
    rw [ih, mem_put, List.mem_cons]
    constructor
    · rintro ((h | h) | h)
      · exact .inr (.inl h)
      · exact .inl h
      · exact .inr (.inr h)
    · rintro (h | h | h)
      · exact .inl (.inr h)
      · exact .inl (.inl h)
      · exact .inr h
theorem putAll_ok {L : List Int} (hL : InN L) : ∀ {o : List Int}, UpN o → InN o → UpN (putAll o L) ∧ InN (putAll o L) := by
  induction L with
  | nil => exact fun hu hi => ⟨hu, hi⟩
  | cons a L ih =>
    intro o hu hi
    exact ih (fun x hx => hL x (List.mem_cons_of_mem _ hx)) (up_put a hu) (in_put hi (hL a (List.mem_cons_self ..)))
theorem putAll_len (L : List Int) : ∀ o : List Int, putAll o L = o ∨ o.length < (putAll o L).length := by
  induction L with
  | nil => exact fun o => .inl rfl
  | cons a L ih =>
    intro o
    show putAll (putN o a) L = o ∨ _ < (putAll (putN o a) L).length
    rcases put_len o a with e | e
    · rw [e]; exact ih o
    · rcases ih (putN o a) with k | k
      · rw [k]; exact .inr (by omega)
      · exact .inr (by omega)
theorem putAll_take {o L : List Int} {k : Nat} (h : k < L.length) : putAll o (L.take (k + 1)) = putN (putAll o (L.take k)) (L.getD k 0) := by
  unfold putAll
  rw [List.take_add_one, List.getElem?_eq_getElem h, List.foldl_append, List.getD_eq_getElem?_getD, List.getElem?_eq_getElem h]
  rfl

/-- The list holds the ends of rows from a place. -/
def EndS (R : Nat → Prop) (L : List Int) : Prop := UpN L ∧ InN L ∧ Ends R L
/-- What is reached from the first k of a list. -/
def InU (R : Nat → Nat → Prop) (L1 : List Int) (k : Nat) (x : Int) : Prop := ∃ i, i < k ∧ ∃ j : Nat, x = (j : Int) ∧ R (L1.getD i 0).toNat j
theorem inU_zero {R : Nat → Nat → Prop} {L1 : List Int} (x : Int) : ¬ InU R L1 0 x := by rintro ⟨i, h, _⟩; omega
theorem inU_step {R : Nat → Nat → Prop} {L1 L2 : List Int} {k : Nat} (h2 : Ends (R (L1.getD k 0).toNat) L2) (x : Int) : InU R L1 (k + 1) x ↔ InU R L1 k x ∨ x ∈ L2 := by
  constructor
  · rintro ⟨i, hi, j, hx, hr⟩
    by_cases e : i = k
    · subst e; exact .inr ((h2 x).2 ⟨j, hx, hr⟩)
    · exact .inl ⟨i, by omega, j, hx, hr⟩
  · rintro (⟨i, hi, j, hx, hr⟩ | h)
    · exact ⟨i, by omega, j, hx, hr⟩
    · obtain ⟨j, hx, hr⟩ := (h2 x).1 h
      exact ⟨k, by omega, j, hx, hr⟩
theorem getD_mem {L : List Int} {i : Nat} (h : i < L.length) : L.getD i 0 ∈ L := by
  rw [List.getD_eq_getElem?_getD, List.getElem?_eq_getElem h]
  exact List.getElem_mem h
theorem mem_getD {L : List Int} {x : Int} (h : x ∈ L) : ∃ i, i < L.length ∧ L.getD i 0 = x := by
  obtain ⟨i, hi, e⟩ := List.mem_iff_getElem.1 h
  exact ⟨i, hi, by rw [List.getD_eq_getElem?_getD, List.getElem?_eq_getElem hi]; exact e⟩
theorem inU_all {R : Nat → Nat → Prop} {S : Nat → Prop} {L1 : List Int} (h1 : Ends S L1) (x : Int) : InU R L1 L1.length x ↔ ∃ j : Nat, x = (j : Int) ∧ ∃ m, S m ∧ R m j := by
  constructor
  · rintro ⟨i, hi, j, hx, hr⟩
    obtain ⟨m, hm, hs⟩ := (h1 _).1 (getD_mem hi)
    rw [hm] at hr
    exact ⟨j, hx, m, hs, hr⟩
  · rintro ⟨j, hx, m, hs, hr⟩
    obtain ⟨i, hi, e⟩ := mem_getD ((h1 (m : Int)).2 ⟨m, rfl, hs⟩)
    exact ⟨i, hi, j, hx, by rw [e]; exact hr⟩
theorem ends_alt {R S : Nat → Prop} {L1 L2 : List Int} (h1 : EndS R L1) (h2 : EndS S L2) : EndS (fun j => R j ∨ S j) (putAll L1 L2) := by
  have k := putAll_ok h2.2.1 h1.1 h1.2.1
  refine ⟨k.1, k.2, fun x => ?_⟩
  rw [mem_putAll, h1.2.2 x, h2.2.2 x]
  constructor
  · rintro (⟨j, e, r⟩ | ⟨j, e, r⟩)
    · exact ⟨j, e, .inl r⟩
    · exact ⟨j, e, .inr r⟩
  · rintro ⟨j, e, r | r⟩
    · exact .inl ⟨j, e, r⟩
    · exact .inr ⟨j, e, r⟩
/-- A list that has its first place, only what is reached, and all that is one row behind it. -/
theorem ends_str {R : Nat → Nat → Prop} {i : Nat} {L : List Int} (hu : UpN L) (hi : InN L) (h0 : (i : Int) ∈ L) (h1 : ∀ x ∈ L, ∃ j : Nat, x = (j : Int) ∧ StarR R i j) (h2 : ∀ x, InU R L L.length x → x ∈ L) : EndS (StarR R i) L := by
  refine ⟨hu, hi, fun x => ⟨h1 x, ?_⟩⟩
  rintro ⟨j, rfl, s⟩
  refine star_all (S := fun j => (j : Int) ∈ L) h0 (fun m j hm hr => h2 _ ?_) s
  obtain ⟨k, hk, e⟩ := mem_getD hm
  exact ⟨k, hk, j, rfl, by rw [e]; exact hr⟩

/-- The flags of spans: which cells, how many. -/
def cntF (f : Nat → Nat → Bool) : Nat := (List.range 121).countP (fun k => f (k / 11) (k % 11))
theorem count_lt {p q : Nat → Bool} {L : List Nat} (h : ∀ x, p x = true → q x = true) : (∃ x ∈ L, q x = true ∧ p x = false) → L.countP p < L.countP q := by
  induction L with
  | nil => rintro ⟨x, hx, _⟩; exact absurd hx List.not_mem_nil
  | cons a L ih =>
    rintro ⟨x, hx, h1, h2⟩
    have hle : L.countP p ≤ L.countP q := List.countP_mono_left (fun x _ => h x)
    rw [List.countP_cons, List.countP_cons]
    rcases List.mem_cons.1 hx with rfl | hx
    · rw [h1, h2]; simp; omega
    · have k := ih ⟨x, hx, h1, h2⟩
      cases ha : p a with
      | true => rw [h a ha]; simp; omega
      | false => simp only [Bool.false_eq_true, if_false]; omega
theorem cntF_le (f : Nat → Nat → Bool) : cntF f ≤ 121 := by
  have := List.countP_le_length (p := fun k => f (k / 11) (k % 11)) (l := List.range 121)
  simpa [cntF] using this
theorem cntF_lt {f g : Nat → Nat → Bool} (h : ∀ i j, f i j = true → g i j = true) {i j : Nat} (hi : i < 11) (hj : j < 11) (h1 : g i j = true) (h2 : f i j = false) : cntF f < cntF g := by
  refine count_lt (fun x => h _ _) ⟨i * 11 + j, List.mem_range.2 (by omega), ?_, ?_⟩
  · show g ((i * 11 + j) / 11) ((i * 11 + j) % 11) = true
    rw [show (i * 11 + j) / 11 = i by omega, show (i * 11 + j) % 11 = j by omega]; exact h1
  · show f ((i * 11 + j) / 11) ((i * 11 + j) % 11) = false
    rw [show (i * 11 + j) / 11 = i by omega, show (i * 11 + j) % 11 = j by omega]; exact h2
end Go.Proofs.Ytocgghhlfmgndaa
