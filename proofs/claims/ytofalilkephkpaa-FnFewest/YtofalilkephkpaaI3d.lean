/- The order of two prefixes as slices.SortFunc asks it, and what the sort leaves. -/
import Derived.Test.YtofalilkephkpaaShelf3
import Derived.Test.YtofalilkephkpaaI3
namespace Go.Proofs.Ytofalilkephkpaa
open Go.RowKit Go.Sort

/-- Nothing old has turned, and no fewer draws were made. -/
def Drw (w w' : World) : Prop := Below w.heap.size w w' ∧ w.drawn ≤ w'.drawn
theorem Drw.grown {w w' : World} (h : Drw w w') : ∃ q os, w' = grow (w.drewN q) os := by
  obtain ⟨⟨d, os⟩, e⟩ := regrown_of_below h.1
  have h2 : w'.drawn = d := by rw [e]; rfl
  have h3 := h.2
  rw [h2] at h3
  refine ⟨d - w.drawn, os, ?_⟩
  rw [e]
  have e2 : redrawn w d = w.drewN (d - w.drawn) := by
    unfold redrawn World.drewN
    congr 1
    omega
  show grow (redrawn w d) os = _
  rw [e2]
set_option maxHeartbeats 400000 in
theorem i_aroundD (a l : Int) (w : World) (h0 : 0 ≤ l) (h1 : l ≤ 32) (h2 : 0 ≤ a) (h3 : a ≤ 4294967295) :
    Calls Try.prog 117 #[.int .i64 a, .int .i64 l] w fun e w' => e = .returned (.agg #[.int .i64 (a - a % pw l), .int .i64 l]) ∧ Drw w w' := by
  have p1 := pw_pos l
  have p2 := pw_le l h0
  have p3 : 0 ≤ a % pw l := Int.emod_nonneg _ (by omega)
  have p4 : a % pw l < pw l := Int.emod_lt_of_pos _ (by omega)
  go_enter Try.func117, Try.ntmps117
  go_wp2_with (go_at_call 94; refine (i_sizeOf _ _ (by omega) (by omega)).mono ?_; rintro e w' ⟨rfl, rfl⟩)
  exact bodyPost_ret (v := .agg #[.int .i64 (a - a % pw l), .int .i64 l]) (by simp [results, Try.results117, go_sem]) rfl ⟨rfl, (Below.refl _ _).alloc (Nat.le_refl _) _, Nat.le_refl _⟩
set_option maxRecDepth 100000 in
set_option maxHeartbeats 800000 in
theorem i_goodD (p : Pf) (w : World) (gp : gdP p) :
    Calls Try.prog 110 #[.agg #[.int .i64 p.1, .int .i64 p.2]] w fun e w' => e = .returned (.bool true) ∧ Drw w w' := by
  obtain ⟨hl0, hl1, ha0, ha1, hm, _⟩ := gdP_parts gp
  have hT : Hid ((p.1 == p.1 - p.1 % pw p.2) = true) := by show _ = _; rw [hm]; simp
  clear hm
  have i2 := inB_t ha0 ha1
  have t1 : decide (p.2 < 0) = false := by simp; omega
  have t2 : decide (32 < p.2) = false := by simp; omega
  have he := eqPrefix_run
  have hg := eqPrefix_guard
  go_enter Try.func110, Try.ntmps110
  go_wp2_with (go_at_call 97; refine (i_isAddr _ _).mono ?_; rintro e w' ⟨rfl, rfl⟩)
  go_region_with (go_at_call 117; refine (i_aroundD _ _ _ hl0 hl1 ha0 ha1).mono ?_; rintro e w' ⟨rfl, hb, hd⟩; obtain ⟨hc, hf⟩ := bcell hb)
  all_goals
    go_wp2
    go_ret
    exact ⟨ret_bool (by have := hT.out; simpa using this), ((Below.refl _ _).alloc (Nat.le_refl _) _).drew.trans (hb.mono (by simp)), Nat.le_of_succ_le hd⟩
def cfP (p q : Pf) : Int := cmpP p.1 p.2 q.1 q.2
set_option maxRecDepth 100000 in
set_option maxHeartbeats 800000 in
theorem i_compareD (p q : Pf) (w : World) (gp : gdP p) (gq : gdP q) :
    Calls Try.prog 183 #[.agg #[.int .i64 p.1, .int .i64 p.2], .agg #[.int .i64 q.1, .int .i64 q.2]] w fun e w' => e = .returned (.tuple #[.int .i64 (cfP p q), .bool true]) ∧ Drw w w' := by
  have s1 := hide (fun w => i_goodD p w gp)
  have s2 := hide (fun w => i_goodD q w gq)
  by_cases h : p.1 = q.1
  · have e1 : cfP p q = cmpI p.2 q.2 := by simp [cfP, cmpP, h]
    have z0 : (p.1 != q.1) = false := by simp [h]
    rw [e1]
    clear e1 h gp gq
    have s3 := hide (fun w => c_compare p.2 q.2 w)
    generalize cmpI p.2 q.2 = r at *
    go_enter Try.func183, Try.ntmps183
    go_wp2_with fail
    refine (s1.out _).mono ?_
    rintro e w1 ⟨rfl, hb1, hd1⟩
    obtain ⟨hc, hf⟩ := bcell hb1
    go_wp2_with fail
    clear hc hf
    refine (s2.out _).mono ?_
    rintro e w2 ⟨rfl, hb2, hd2⟩
    have hb := below_step hb1 hb2
    have hd : w.drawn ≤ w2.drawn := Nat.le_trans hd1 hd2
    clear hb1 hb2 hd1 hd2
    obtain ⟨hc, hf⟩ := bcell hb
    go_wp2_with fail
    refine (s3.out _).mono ?_
    rintro e w3 ⟨rfl, rfl⟩
    go_wp2_with fail
    go_ret2
    exact ⟨rfl, below_box2 hb, hd⟩
  · have e1 : cfP p q = cmpI p.1 q.1 := by simp [cfP, cmpP, h]
    have z0 : (p.1 != q.1) = true := by simp [h]
    rw [e1]
    clear e1 h gp gq
    have s3 := hide (fun w => c_compare p.1 q.1 w)
    generalize cmpI p.1 q.1 = r at *
    go_enter Try.func183, Try.ntmps183
    go_wp2_with fail
    refine (s1.out _).mono ?_
    rintro e w1 ⟨rfl, hb1, hd1⟩
    obtain ⟨hc, hf⟩ := bcell hb1
    go_wp2_with fail
    clear hc hf
    refine (s2.out _).mono ?_
    rintro e w2 ⟨rfl, hb2, hd2⟩
    have hb := below_step hb1 hb2
    have hd : w.drawn ≤ w2.drawn := Nat.le_trans hd1 hd2
    clear hb1 hb2 hd1 hd2
    obtain ⟨hc, hf⟩ := bcell hb
    go_wp2_with fail
    refine (s3.out _).mono ?_
    rintro e w3 ⟨rfl, rfl⟩
    go_wp2_with fail
    go_ret2
    exact ⟨rfl, below_box2 hb, hd⟩
set_option maxRecDepth 100000 in
set_option maxHeartbeats 800000 in
theorem i_orderD (p q : Pf) (w : World) (gp : gdP p) (gq : gdP q) :
    Calls Try.prog 172 #[.agg #[.int .i64 p.1, .int .i64 p.2], .agg #[.int .i64 q.1, .int .i64 q.2]] w fun e w' => e = .returned (.int .i64 (cfP p q)) ∧ Drw w w' := by
  have s1 := hide (fun w => i_compareD p q w gp gq)
  clear gp gq
  generalize cfP p q = r at *
  go_enter Try.func172, Try.ntmps172
  go_wp2_with fail
  refine (s1.out _).mono ?_
  rintro e w1 ⟨rfl, hb1, hd1⟩
  go_wp2_with fail
  go_ret
  exact ⟨rfl, below_box2 hb1, hd1⟩

/-- Good prefixes. -/
abbrev GPf := { p : Pf // gdP p }
instance : Inhabited GPf := ⟨⟨(0, 0), root_good⟩⟩
def encG (x : GPf) : List Value := encP x.1
def cfG (x y : GPf) : Int := cfP x.1 y.1
theorem ltG (x y : GPf) : ltOf cfG x y = ltP x.1 y.1 := rfl
theorem swoG : SWO (ltOf cfG) where
  irrefl x := by rw [ltG]; cases h : ltP x.1 x.1 with | false => rfl | true => rw [ltP_iff] at h; omega
  trans x y z h1 h2 := by rw [ltG, ltP_iff] at *; omega
  ntrans x y z h1 h2 := by
    rw [ltG] at *
    have n1 : ¬ ltP x.1 y.1 = true := by rw [h1]; simp
    have n2 : ¬ ltP y.1 z.1 = true := by rw [h2]; simp
    cases h : ltP x.1 z.1 with
    | false => rfl
    | true => rw [ltP_iff] at h n1 n2; omega
theorem sort_below {base blk off n : Nat} {w : World} {d : Array GPf} {os : Array Obj} (hb : base ≤ blk) (hl : blk < w.heap.size) : Below base w (sortWorldK encG 2 w blk off n d os) := by
  refine ⟨rfl, rfl, rfl, ?_, fun k hk => ?_⟩
  · simp [sortWorldK, putRowK, putRow, mapBlock, grow]
  · simp only [sortWorldK, putRowK, putRow, mapBlock, grow]
    rw [Array.getElem?_append_left (by simp; omega), Array.getElem?_modify, if_neg (by omega)]
    rfl
theorem i_sort (base g cap : Nat) (L : List Pf) (w : World) (hb : base ≤ g) (hlen : L.length ≤ 4294967296) (ho : OwnP base (.slice (some ⟨g, 0, none⟩) L.length cap) L w) (hgl : g < w.heap.size) (hg : ∀ p, p ∈ L → gdP p) :
    Calls Try.prog 171 #[.slice (some ⟨g, 0, none⟩) L.length cap, .func (.func 172) #[] #[]] w fun e w' =>
      e = .returned (.tuple #[]) ∧ ∃ S : List Pf, S.Perm L ∧ S.Pairwise (fun a b => ltP b a = false) ∧ S.length = L.length ∧ RowP (some ⟨g, 0, none⟩) S w' ∧ Below base w w' := by
  obtain ⟨d, hd⟩ : ∃ d : Array GPf, d.toList.map (·.1) = L := by
    refine ⟨(L.pmap (fun p h => (⟨p, h⟩ : GPf)) hg).toArray, ?_⟩
    rw [List.map_pmap]
    simp
  have hds : d.size = L.length := by rw [← hd]; simp
  have hdi : ∀ i, i < L.length → pAt L i = (d[i]!).1 := by
    intro i hi
    rw [pAt_eq hi]
    simp only [← hd, List.getElem_map]
    rw [getElem!_pos d i (by omega)]
    simp
  have hH : HoldsK encG 2 w g 0 d := by
    intro j hj
    simp only [size_flatK] at hj
    have hi : j / 2 < L.length := by omega
    obtain ⟨⟨h0, h1⟩, hf⟩ := ownP_at ho hi
    rw [hdi _ hi] at h0 h1
    refine ⟨?_, hf _⟩
    rw [get_flatK encG 2 d j hj]
    rcases (show j = j / 2 * 2 ∧ j % 2 = 0 ∨ j = j / 2 * 2 + 1 ∧ j % 2 = 1 by omega) with ⟨e, em⟩ | ⟨e, em⟩
    · rw [em, Nat.zero_add]
      rw [← e] at h0
      exact h0
    · rw [em, Nat.zero_add]
      rw [← e] at h1
      exact h1
  have eg : ∀ args w, (callFunc 172 args).run Try.prog w = .ok (.enter 172 args) w := Go.Proofs.enters_of Try.func172 (by kernel_rfl) rfl
  have hcmp : CmpLays Try.prog 172 #[] encG 2 cfG g 0 d.size w := fun m os dk _ x y => (i_orderD x.1 y.1 _ x.2 y.2).mono fun e w' h => ⟨h.1, h.2.grown⟩
  have hcon := AnyQ.slices_SortFunc Try.laysSort 2 Try.isAgg34 Try.sizeOf34 encG (fun _ => rfl) (fun x v hv => by simp [encG, encP] at hv; rcases hv with rfl | rfl <;> rfl) cfG swoG 172 #[] g 0 cap d w eg hcmp hH hgl (by omega)
  rw [hds] at hcon
  refine Calls.mono hcon ?_
  rintro e w' ⟨he, d', n, os, hp, hs, rfl⟩
  have hsz : d'.size = d.size := hp.1
  refine ⟨he, d'.toList.map (·.1), ?_, ?_, ?_, ?_, sort_below hb hgl⟩
  · have h1 := hp.2.2
    have e1 : d'.extract 0 L.length = d' := by rw [← hds, ← hsz]; simp
    have e2 : d.extract 0 L.length = d := by rw [← hds]; simp
    rw [e1, e2] at h1
    rw [← hd]
    exact h1.map _
  · rw [List.pairwise_map, List.pairwise_iff_getElem]
    intro i j hi hj hij
    have h1 := hs i j (Nat.zero_le _) hij (by simp at hj; omega)
    rw [ltG, getElem!_pos d' i (by simpa using hi), getElem!_pos d' j (by simpa using hj)] at h1
    simpa using h1
  · simp
    omega
  · have hsw : SWK encG 2 w g 0 d' (sortWorldK encG 2 w g 0 n d' os) := ⟨n, os, rfl⟩
    have hh := hsw.holds hgl hH hsz
    intro i hi
    have hi' : i < d'.size := by simpa using hi
    have e0 : pAt (d'.toList.map (·.1)) i = (d'[i]!).1 := by
      rw [pAt_eq hi]
      simp only [List.getElem_map]
      rw [getElem!_pos d' i hi']
      simp
    have c0 := (hh (i * 2) (by simp only [size_flatK]; omega)).1
    have c1 := (hh (i * 2 + 1) (by simp only [size_flatK]; omega)).1
    rw [get_flatK encG 2 d' _ (by omega)] at c0 c1
    have d0 : i * 2 / 2 = i := by omega
    have d1 : (i * 2 + 1) / 2 = i := by omega
    have m0 : i * 2 % 2 = 0 := by omega
    have m1 : (i * 2 + 1) % 2 = 1 := by omega
    rw [d0, m0] at c0
    rw [d1, m1] at c1
    rw [e0]
    exact ⟨g, 0, rfl, hsw.lt hgl, c0, c1⟩
end Go.Proofs.Ytofalilkephkpaa
