/- A part of the proof. -/
import Derived.Test.YtlbdehegknehiaaGreatMg00
import Derived.Test.YtlbdehegknehiaaGreatMg41
namespace Go.Proofs.YtlbdehegknehiaaGreat
set_option maxRecDepth 100000
set_option maxHeartbeats 4000000
open Go.RowKit
set_option linter.unusedVariables false
set_option linter.unusedSimpArgs false
attribute [local go_sem ↓] ld_addr st_addr bld_addr ld_tk st_tk bld_tk
attribute [local go_sem] ldr_addr str_addr ldr_tk str_tk row?_drew_eq
def RA8 (w W : World) : Prop := ObjAt W w.heap.size zz26 28 ∧ Below w.heap.size w W
theorem RA8.start (w : World) : RA8 w (w.alloc (.cells zz26 28)) := ⟨ObjAt.made w _ _, (Below.refl _ _).alloc (Nat.le_refl _) _⟩
theorem RA8.below {w W W' : World} (h : RA8 w W) (hb : Below W.heap.size W W') : RA8 w W' := ⟨h.1.below hb h.1.lt, bstep h.2 hb⟩
theorem RA8.free {w W : World} (h : RA8 w W) : free? W w.heap.size 0 26 = true := obj_free h.1 (by simp)
theorem RA8.zero {w W : World} (h : RA8 w W) : row? (aggW W w.heap.size (tkC zeroT (.slice none 0 0) (.slice none 0 0))) w.heap.size 0 26 = some (tkC zeroT (.slice none 0 0) (.slice none 0 0)) ∧ Below w.heap.size w (aggW W w.heap.size (tkC zeroT (.slice none 0 0) (.slice none 0 0))) :=
  ⟨aggW_row h.free (tkC_length zeroA_ok _ _), aggW_below h.2 (Nat.le_refl _) _⟩
structure RB9 (w W : World) (b0 bp m : Nat) (l : List UInt8) (k : Nat) (bad : Bool) : Prop where
  ra : RA8 w W
  rd : RdAt W b0 l k bad
  pp : ObjAt W bp #[.pointer (some ⟨b0, 0, none⟩)] 192
  tk : ObjAt W m (tkC zeroT (.slice none 0 0) (.slice none 0 0)).toArray 28
  l0 : w.heap.size < b0
  lm : w.heap.size < m
  n1 : bp ≠ b0
  n2 : m ≠ b0
theorem RB9.call {w W W' : World} {b0 bp m : Nat} {l l' : List UInt8} {k k' : Nat} {bad bad' : Bool} (h : RB9 w W b0 bp m l k bad) (hr : RdAt W' b0 l' k' bad') (hg : W.grownBy W' (some b0)) : RB9 w W' b0 bp m l' k' bad' := by
  have l0 := h.l0
  exact ⟨⟨ObjAt.grown h.ra.1 hg (by simp; omega), bgrown h.ra.2 hg (fun k hk => by simp at hk; omega)⟩, hr, ObjAt.grown h.pp hg (by simpa using h.n1), ObjAt.grown h.tk hg (by simpa using h.n2), l0, h.lm, h.n1, h.n2⟩
theorem RB9.c {w W : World} {b0 bp m : Nat} {l : List UInt8} {k : Nat} {bad : Bool} (h : RB9 w W b0 bp m l k bad) : W.cell? ⟨bp, 0, none⟩ = some (.pointer (some ⟨b0, 0, none⟩)) ∧ free? W w.heap.size 0 26 = true ∧ row? W m 0 26 = some (tkC zeroT (.slice none 0 0) (.slice none 0 0)) :=
  ⟨by rw [ObjAt.cell h.pp]; rfl, h.ra.free, obj_rowk (A := []) (M := tkC zeroT (.slice none 0 0) (.slice none 0 0)) (C := []) (by simpa using h.tk) rfl (tkC_length zeroA_ok _ _)⟩
structure RC9 (w W : World) (m : Nat) (t : TK) (us ur : Value) : Prop where
  ra : RA8 w W
  tk : TkAt W m t us ur
  src : AdsT W us t.src
  rcs : RcT W ur t.rcs
theorem RB9.put {w W W' : World} {b0 bp m : Nat} {l : List UInt8} {k : Nat} {bad : Bool} {t : TK} {us ur : Value} (h : RB9 w W b0 bp m l k bad) (hg : W.grownBy W' (some b0)) (hs : AdsT W' us t.src) (hr : RcT W' ur t.rcs) (ho : adOk t.g) :
    free? W' m 0 26 = true ∧ fok (tkC t us ur).toArray 26 = true ∧ RC9 w (aggW W' m (tkC t us ur)) m t us ur := by
  have l0 := h.l0; have lm := h.lm
  have h1 := ObjAt.grown h.ra.1 hg (by simp; omega)
  have h2 := bgrown h.ra.2 hg (fun k hk => by simp at hk; omega)
  have h3 := ObjAt.grown h.tk hg (by simpa using h.n2)
  exact ⟨obj_free h3 (by have := tkC_length (t := zeroT) zeroA_ok (.slice none 0 0) (.slice none 0 0); simp; omega), fok_tk ho hs.1.one hr.rcs.one, ⟨aggW_other h1 _ (by omega), aggW_below h2 (by omega) _⟩, ⟨aggW_obj h3 (by rw [tkC_length ho, tkC_length zeroA_ok]) (tkC_one hs.1.one hr.rcs.one), ho⟩, hs.far h3 (by decide) (aggW_grown _ _ _), hr.far h3 (by decide) (by decide) (aggW_grown _ _ _)⟩
theorem RC9.c {w W : World} {m : Nat} {t : TK} {us ur : Value} (h : RC9 w W m t us ur) : row? W m 0 26 = some (tkC t us ur) ∧ free? W w.heap.size 0 26 = true ∧ fok (tkC t us ur).toArray 26 = true := ⟨h.tk.row, h.ra.free, fok_tk h.tk.2 h.src.1.one h.rcs.rcs.one⟩
theorem RC9.done {w W : World} {m : Nat} {t : TK} {us ur : Value} (h : RC9 w W m t us ur) : row? (aggW W w.heap.size (tkC t us ur)) w.heap.size 0 26 = some (tkC t us ur) ∧ Below w.heap.size w (aggW W w.heap.size (tkC t us ur)) ∧ AdsT (aggW W w.heap.size (tkC t us ur)) us t.src ∧ RcT (aggW W w.heap.size (tkC t us ur)) ur t.rcs ∧ adOk t.g :=
  ⟨aggW_row h.ra.free (tkC_length h.tk.2 _ _), aggW_below h.ra.2 (Nat.le_refl _) _, h.src.far h.ra.1 (by decide) (aggW_grown _ _ _), h.rcs.far h.ra.1 (by decide) (by decide) (aggW_grown _ _ _), h.tk.2⟩
theorem bld_prs (p : Array (Nat × Value)) : Instr.build 192 p = aggBuild 192 p := rfl
theorem bldr_prs (b0 : Nat) (w : World) : (aggBuild 192 #[(0, .pointer (some ⟨b0, 0, none⟩))]).run Tryz.prog w = .ok (pv b0) w := bld_run _ _ _ (by kernel_rfl) _
attribute [local go_sem ↓] bld_prs
attribute [local go_sem] bldr_prs
def PartQ (W W' : World) (b0 : Nat) (s : List UInt8) (x : Ending) : Prop := ∃ (us ur : Value) (e : Int) (t : TK), x = .returned (.tuple #[.agg (tkC t us ur).toArray, .int .i64 e]) ∧ AdsT W' us t.src ∧ RcT W' ur t.rcs ∧ W.grownBy W' (some b0) ∧ adOk t.g ∧ e = (readT s).2 ∧ (e = 0 → t = (readT s).1)
theorem qry_zero (s : List UInt8) (h : (qry s).2 ≠ 0) : (qry s).1 = zeroT := by
  unfold qry at h ⊢
  repeat' split at h
  all_goals (try simp_all)
  all_goals (repeat' split)
  all_goals rfl
theorem readT_zero (s : List UInt8) (h : (readT s).2 ≠ 0) : (readT s).1 = zeroT := by
  unfold readT at h ⊢
  split at h
  · rename_i a; rw [if_pos a]
  rename_i a; rw [if_neg a]
  split at h
  · rename_i a; rw [if_pos a]
  rename_i a; rw [if_neg a]
  split at h
  · rename_i a; rw [if_pos a]; exact qry_zero s h
  rename_i a; rw [if_neg a]
  repeat' split at h
  all_goals (try simp_all)
  all_goals (repeat' split)
  all_goals rfl
theorem part_17 (s : List UInt8) (hs : s.length ≤ 100000) (h8 : 8 ≤ s.length) (hsum : foldN (wsum s) = 65535) (hc : by8 s 0 = 17) (b0 : Nat) (W : World) (h : RdAt W b0 (s.drop 1) 1 false) : Calls Tryz.prog 207 #[pv b0] W fun x W' => PartQ W W' b0 s x := by
  have hT : readT s = qry s := by
    unfold readT
    rw [if_neg (by omega), if_neg (by rw [hsum]; simp), if_pos hc]
  refine (pquery_any W b0 s hs h8 h).mono ?_
  rintro x W' ⟨us, ur, e, t, rfl, h1, h2, h3, h4, h5, h6⟩
  exact ⟨us, ur, e, t, rfl, h1, h2, h3, h4, by rw [hT]; exact h5, by rw [hT]; exact h6⟩
theorem part_18 (s : List UInt8) (hs : s.length ≤ 100000) (h8 : 8 ≤ s.length) (hsum : foldN (wsum s) = 65535) (hc : by8 s 0 = 18) (b0 : Nat) (W : World) (h : RdAt W b0 (s.drop 1) 1 false) : Calls Tryz.prog 208 #[pv b0, .int .i64 1, .int .i64 2] W fun x W' => PartQ W W' b0 s x := by
  have hT : readT s = if grp8 (fourL s 4) = false then (zeroT, 2) else (⟨false, 1, 2, 0, fourL s 4, false, 0, 0, [], []⟩, 0) := by
    unfold readT
    rw [if_neg (by omega), if_neg (by rw [hsum]; simp), if_neg (by rw [hc]; decide), if_neg (by rw [hc]; decide), if_pos (by rw [hc]; decide), hc]
    rfl
  refine (pmember_any 1 2 W b0 s hs h8 h).mono ?_
  rintro x W' ⟨us, ur, rfl, h1, h2, h3, h4⟩
  refine ⟨us, ur, _, _, rfl, h1, h2, h3, h4, ?_, ?_⟩
  · rw [hT]; cases grp8 (fourL s 4) <;> rfl
  · rw [hT]; cases grp8 (fourL s 4)
    · intro h; simp at h
    · intro _; rfl
theorem part_22 (s : List UInt8) (hs : s.length ≤ 100000) (h8 : 8 ≤ s.length) (hsum : foldN (wsum s) = 65535) (hc : by8 s 0 = 22) (b0 : Nat) (W : World) (h : RdAt W b0 (s.drop 1) 1 false) : Calls Tryz.prog 208 #[pv b0, .int .i64 2, .int .i64 2] W fun x W' => PartQ W W' b0 s x := by
  have hT : readT s = if grp8 (fourL s 4) = false then (zeroT, 2) else (⟨false, 2, 2, 0, fourL s 4, false, 0, 0, [], []⟩, 0) := by
    unfold readT
    rw [if_neg (by omega), if_neg (by rw [hsum]; simp), if_neg (by rw [hc]; decide), if_neg (by rw [hc]; decide), if_pos (by rw [hc]; decide), hc]
    rfl
  refine (pmember_any 2 2 W b0 s hs h8 h).mono ?_
  rintro x W' ⟨us, ur, rfl, h1, h2, h3, h4⟩
  refine ⟨us, ur, _, _, rfl, h1, h2, h3, h4, ?_, ?_⟩
  · rw [hT]; cases grp8 (fourL s 4) <;> rfl
  · rw [hT]; cases grp8 (fourL s 4)
    · intro h; simp at h
    · intro _; rfl
theorem part_23 (s : List UInt8) (hs : s.length ≤ 100000) (h8 : 8 ≤ s.length) (hsum : foldN (wsum s) = 65535) (hc : by8 s 0 = 23) (b0 : Nat) (W : World) (h : RdAt W b0 (s.drop 1) 1 false) : Calls Tryz.prog 208 #[pv b0, .int .i64 2, .int .i64 3] W fun x W' => PartQ W W' b0 s x := by
  have hT : readT s = if grp8 (fourL s 4) = false then (zeroT, 2) else (⟨false, 2, 3, 0, fourL s 4, false, 0, 0, [], []⟩, 0) := by
    unfold readT
    rw [if_neg (by omega), if_neg (by rw [hsum]; simp), if_neg (by rw [hc]; decide), if_neg (by rw [hc]; decide), if_pos (by rw [hc]; decide), hc]
    rfl
  refine (pmember_any 2 3 W b0 s hs h8 h).mono ?_
  rintro x W' ⟨us, ur, rfl, h1, h2, h3, h4⟩
  refine ⟨us, ur, _, _, rfl, h1, h2, h3, h4, ?_, ?_⟩
  · rw [hT]; cases grp8 (fourL s 4) <;> rfl
  · rw [hT]; cases grp8 (fourL s 4)
    · intro h; simp at h
    · intro _; rfl
theorem part_34 (s : List UInt8) (hs : s.length ≤ 100000) (h8 : 8 ≤ s.length) (hsum : foldN (wsum s) = 65535) (hc : by8 s 0 = 34) (b0 : Nat) (W : World) (h : RdAt W b0 (s.drop 1) 1 false) : Calls Tryz.prog 209 #[pv b0] W fun x W' => PartQ W W' b0 s x := by
  have hT : readT s = if 64 < wd s 6 then (zeroT, 6) else if (recL s 8 (wd s 6)).2 ≠ 0 then (zeroT, (recL s 8 (wd s 6)).2) else (⟨false, 3, 2, 0, zeroA, false, 0, 0, [], (recL s 8 (wd s 6)).1⟩, 0) := by
    unfold readT
    rw [if_neg (by omega), if_neg (by rw [hsum]; simp), if_neg (by rw [hc]; decide), if_pos hc]
  refine (preport_any W b0 s hs h8 h).mono ?_
  rintro x W' ⟨e, ur, rcs, rfl, h1, h2, h3, h4⟩
  refine ⟨_, ur, e, repW rcs, rfl, AdsT.nil _, h2, h3, zeroA_ok, ?_, ?_⟩
  · rw [h1, hT]; unfold recE
    by_cases a : 64 < wd s 6
    · rw [if_pos a, if_pos a]
    · rw [if_neg a, if_neg a]
      by_cases b : (recL s 8 (wd s 6)).2 = 0
      · rw [if_neg (by rw [b]; simp)]; exact b
      · rw [if_pos b]
  · intro h0
    have h5 := h4 h0
    rw [h1] at h0
    unfold recE at h0
    by_cases a : 64 < wd s 6
    · rw [if_pos a] at h0; cases h0
    · rw [if_neg a] at h0
      rw [hT, if_neg a, if_neg (by rw [h0]; simp), h5]; rfl
theorem read_end (s : List UInt8) (h8 : s.length < 8) (w : World) : Calls Tryz.prog 171 #[.string (Str s)] w fun x w' => ReadP w s x w' := by
  have hsz := Str_size s
  have H0 := zh (RA8.start w)
  have hb0 := bldr_tk0
  have hfz : fok (tkC zeroT (.slice none 0 0) (.slice none 0 0)).toArray 26 = true := fok_tk zeroA_ok rfl rfl
  have t8 : decide ((s.length : Int) < 8) = true := decide_eq_true (by omega)
  have t8n : decide (s.length < 8) = true := decide_eq_true h8
  have hT : Hid (readT s = (zeroT, 3)) := zh (by unfold readT; rw [if_pos h8])
  clear h8
  go_enter Tryz.func171, Tryz.ntmps171
  go_upto_region 1 with (fail)
  generalize w.alloc (.cells zz26 28) = W at H0 ⊢
  have hfr := H0.out.free
  repeat (first | go_values | go_skip | go_guarded | go_step | go_upon | go_in)
  obtain ⟨q1, q2⟩ := H0.out.zero
  exact bodyPost_ret (results_cell2 Tryz.results171 rfl (ld_some q1 (ldr_tk _ _ _))) rfl ⟨_, _, by rw [hT.out]; rfl, q2, by rw [hT.out]; exact zeroA_ok, by rw [hT.out]; exact AdsT.nil _, by rw [hT.out]; exact RcT.nil _⟩
theorem read_sum (s : List UInt8) (hs : s.length ≤ 100000) (h8 : 8 ≤ s.length) (hsum : foldN (wsum s) ≠ 65535) (w : World) : Calls Tryz.prog 171 #[.string (Str s)] w fun x w' => ReadP w s x w' := by
  have hsz := Str_size s
  have H0 := zh (RA8.start w)
  have hb0 := bldr_tk0
  have hfz : fok (tkC zeroT (.slice none 0 0) (.slice none 0 0)).toArray 26 = true := fok_tk zeroA_ok rfl rfl
  have hl : ([s] : List (List UInt8)).flatten.length ≤ 1048576 := by simp; omega
  have HSG : Hid (∀ W : World, Calls Tryz.prog 201 #[.slice (some ⟨W.heap.size, 0, none⟩) 1 1] (W.alloc (.cells #[.string (Str s)] 9)) fun e w' => e = .returned (.bool false) ∧ Below W.heap.size W w') := zh fun W => by
    refine (good_own [s] hl (by simp) 0 _ _ (own_lit0 W #[.string (Str s)] _ 1 _ rfl (by omega) rfl)).mono ?_
    rintro e w1 ⟨rfl, d, rfl⟩
    exact ⟨by simp [hsum], bdrewN ((Below.refl _ _).alloc (Nat.le_refl _) _) _⟩
  have t8 : decide ((s.length : Int) < 8) = false := decide_eq_false (by omega)
  have t8n : decide (s.length < 8) = false := decide_eq_false (by omega)
  have hT : Hid (readT s = (zeroT, 4)) := zh (by unfold readT; rw [if_neg (by omega), if_pos hsum])
  clear hsum hs h8 hl
  go_enter Tryz.func171, Tryz.ntmps171
  go_upto_region 1 with (fail)
  generalize w.alloc (.cells zz26 28) = W at H0 ⊢
  go_upto_region 4 with (go_at_call 201; (with_reducible refine (HSG.out _).mono ?_); rintro x w1 ⟨rfl, hb⟩; have H1 := zh (H0.out.below hb); clear hb; have hfr := H1.out.free)
  repeat (first | go_values | go_skip | go_guarded | go_step | go_upon | go_in)
  obtain ⟨q1, q2⟩ := H1.out.zero
  exact bodyPost_ret (results_cell2 Tryz.results171 rfl (ld_some q1 (ldr_tk _ _ _))) rfl ⟨_, _, by rw [hT.out]; rfl, q2, by rw [hT.out]; exact zeroA_ok, by rw [hT.out]; exact AdsT.nil _, by rw [hT.out]; exact RcT.nil _⟩
structure RB5 (w W : World) (b0 bp : Nat) (s : List UInt8) : Prop where
  ra : RA8 w W
  rd : RdAt W b0 s 0 false
  pp : ObjAt W bp #[.pointer (some ⟨b0, 0, none⟩)] 192
  l0 : w.heap.size < b0
  n1 : bp ≠ b0
  lz : b0 < W.heap.size
theorem RB5.start {w W : World} (h : RA8 w W) (s : List UInt8) : RB5 w ((W.alloc (.cells #[.string (Str s), .int .i64 0, .bool false] 164)).alloc (.cells #[.pointer (some ⟨W.heap.size, 0, none⟩)] 192)) W.heap.size (W.heap.size + 1) s := by
  have k1 := (Below.refl W.heap.size W).alloc (Nat.le_refl _) (.cells #[.string (Str s), .int .i64 0, .bool false] 164)
  have s1 : (W.alloc (.cells #[.string (Str s), .int .i64 0, .bool false] 164)).heap.size = W.heap.size + 1 := by simp
  have k2 := (Below.refl _ (W.alloc (.cells #[.string (Str s), .int .i64 0, .bool false] 164))).alloc (Nat.le_refl _) (.cells #[.pointer (some ⟨W.heap.size, 0, none⟩)] 192)
  have o1 := ObjAt.made W #[.string (Str s), .int .i64 0, .bool false] 164
  have o2 := ObjAt.made (W.alloc (.cells #[.string (Str s), .int .i64 0, .bool false] 164)) #[.pointer (some ⟨W.heap.size, 0, none⟩)] 192
  rw [s1] at o2
  exact ⟨(h.below k1).below k2, o1.below k2 o1.lt, o2, h.1.lt, by omega, by simp; omega⟩
theorem RB5.made {w W : World} {b0 bp : Nat} {s : List UInt8} (h : RB5 w W b0 bp s) : RB9 w (aggW (W.alloc (.cells zz26 28)) W.heap.size (tkC zeroT (.slice none 0 0) (.slice none 0 0))) b0 bp W.heap.size s 0 false := by
  have hm := TM.made (w := W) (t := zeroT) (Below.refl _ _) zeroA_ok (Ads.nil W) (Rcs.nil W)
  have hlt := h.ra.1.lt
  have hz := h.lz
  exact ⟨h.ra.below hm.blw, ObjAt.below h.rd hm.blw hz, h.pp.below hm.blw h.pp.lt, hm.tk.1, h.l0, hlt, h.n1, by omega⟩
theorem read_17 (s : List UInt8) (hs : s.length ≤ 100000) (h8 : 8 ≤ s.length) (hsum : foldN (wsum s) = 65535) (hc : by8 s 0 = 17) (w : World) : Calls Tryz.prog 171 #[.string (Str s)] w fun x w' => ReadP w s x w' := by
  have hsz := Str_size s
  have H0 := zh (RA8.start w)
  have hb0 := bldr_tk0
  have hfz : fok (tkC zeroT (.slice none 0 0) (.slice none 0 0)).toArray 26 = true := fok_tk zeroA_ok rfl rfl
  have hl : ([s] : List (List UInt8)).flatten.length ≤ 1048576 := by simp; omega
  have HSG : Hid (∀ W : World, Calls Tryz.prog 201 #[.slice (some ⟨W.heap.size, 0, none⟩) 1 1] (W.alloc (.cells #[.string (Str s)] 9)) fun e w' => e = .returned (.bool true) ∧ Below W.heap.size W w') := zh fun W => by
    refine (good_own [s] hl (by simp) 0 _ _ (own_lit0 W #[.string (Str s)] _ 1 _ rfl (by omega) rfl)).mono ?_
    rintro e w1 ⟨rfl, d, rfl⟩
    exact ⟨by simp [hsum], bdrewN ((Below.refl _ _).alloc (Nat.le_refl _) _) _⟩
  have t8 : decide ((s.length : Int) < 8) = false := decide_eq_false (by omega)
  have t8n : decide (s.length < 8) = false := decide_eq_false (by omega)
  have HN : Hid (∀ b0, PNum b0 s 0 false 1 (by8 s 0) (s.drop 1) 1 false) := zh (fun b0 => by
    have := pnum_good b0 s 0 1 (by omega) (by omega) (by omega)
    rw [num_by8 s 0 (by omega)] at this
    exact this)
  have HNW := zh (fun W => new_any (Str s) W)
  have HK := zh (fun b0 W h => part_17 s hs h8 hsum hc b0 W h)
  have HCX := hc
  obtain ⟨c, hcc⟩ : ∃ c, c = by8 s 0 := ⟨_, rfl⟩
  rw [← hcc] at HN HCX
  have t17 : ((c : Int) == 17) = true := by rw [HCX]; rfl
  clear hsum hs h8 hl hcc HCX
  go_enter Tryz.func171, Tryz.ntmps171
  go_upto_region 1 with (fail)
  generalize w.alloc (.cells zz26 28) = W at H0 ⊢
  go_upto_region 5 with (go_at_call 201; (with_reducible refine (HSG.out _).mono ?_); rintro x w1 ⟨rfl, hb⟩; have H1 := zh (H0.out.below hb); clear hb)
  go_upto_region 6 with (go_at_call 82; (with_reducible refine (HNW.out _).mono ?_); rintro x w2 ⟨rfl, hw2⟩; subst hw2)
  have H5 := zh (RB5.start H1.out s)
  generalize (w1.alloc (.cells #[.string (Str s), .int .i64 0, .bool false] 164)).alloc (.cells #[.pointer (some ⟨w1.heap.size, 0, none⟩)] 192) = W5 at H5 ⊢
  generalize w1.heap.size + 1 = bp at H5 ⊢
  generalize w1.heap.size = b0 at H5 ⊢
  have hfm := hfm26 W5
  have H6 := zh H5.out.made
  go_upto_region 7 with (fail)
  generalize aggW (W5.alloc (.cells zz26 28)) W5.heap.size _ = W6 at H6 ⊢
  generalize W5.heap.size = m at H6 ⊢
  clear hfm H0 H1 H5
  obtain ⟨k1, k2, k3⟩ := H6.out.c
  go_upto_region 18 with (first | (go_at_call 206; (with_reducible refine (HN.out _ _ H6.out.rd).mono ?_); rintro x w7 ⟨rfl, h9, k9⟩; have H7 := zh (H6.out.call h9 k9); clear h9 k9 k1 k2 k3; obtain ⟨k1, k2, k3⟩ := H7.out.c) | (go_at_call 207; (with_reducible refine (HK.out _ _ H7.out.rd).mono ?_); rintro x wq ⟨us, ur, e, t, rfl, hs9, hr9, hg9, ho9, he9, h09⟩; have HPT := zh (H7.out.put hg9 hs9 hr9 ho9); have HEE := zh (And.intro he9 h09); clear hs9 hr9 hg9 ho9 he9 h09; obtain ⟨g1, g2, _⟩ := HPT.out))
  have H9 := zh HPT.out.2.2
  generalize aggW wq m _ = w9 at H9 ⊢
  clear k1 k2 k3 g1 g2
  obtain ⟨k1, k2, k3⟩ := H9.out.c
  by_cases he : e = 0
  · have te : (e != 0) = false := by simp [he]
    have HT := zh (HEE.out.2 he)
    have HE := zh (show (readT s).2 = 0 by rw [← HEE.out.1]; exact he)
    clear he
    repeat (first | go_values | go_skip | go_guarded | go_step | go_upon | go_in)
    obtain ⟨q1, q2, q3, q4, q5⟩ := H9.out.done
    exact bodyPost_ret (results_cell2 Tryz.results171 rfl (ld_some q1 (ldr_tk _ _ _))) rfl ⟨us, ur, by rw [← HT.out, HE.out]; rfl, q2, by rw [← HT.out]; exact q5, by rw [← HT.out]; exact q3, by rw [← HT.out]; exact q4⟩
  · have te : (e != 0) = true := by simpa using he
    have HT := zh (readT_zero s (by rw [← HEE.out.1]; exact he))
    clear he
    repeat (first | go_values | go_skip | go_guarded | go_step | go_upon | go_in)
    obtain ⟨q1, q2⟩ := H9.out.ra.zero
    exact bodyPost_ret (results_cell2 Tryz.results171 rfl (ld_some q1 (ldr_tk _ _ _))) rfl ⟨_, _, by rw [HT.out, ← HEE.out.1]; rfl, q2, by rw [HT.out]; exact zeroA_ok, by rw [HT.out]; exact AdsT.nil _, by rw [HT.out]; exact RcT.nil _⟩
theorem read_18 (s : List UInt8) (hs : s.length ≤ 100000) (h8 : 8 ≤ s.length) (hsum : foldN (wsum s) = 65535) (hc : by8 s 0 = 18) (w : World) : Calls Tryz.prog 171 #[.string (Str s)] w fun x w' => ReadP w s x w' := by
  have hsz := Str_size s
  have H0 := zh (RA8.start w)
  have hb0 := bldr_tk0
  have hfz : fok (tkC zeroT (.slice none 0 0) (.slice none 0 0)).toArray 26 = true := fok_tk zeroA_ok rfl rfl
  have hl : ([s] : List (List UInt8)).flatten.length ≤ 1048576 := by simp; omega
  have HSG : Hid (∀ W : World, Calls Tryz.prog 201 #[.slice (some ⟨W.heap.size, 0, none⟩) 1 1] (W.alloc (.cells #[.string (Str s)] 9)) fun e w' => e = .returned (.bool true) ∧ Below W.heap.size W w') := zh fun W => by
    refine (good_own [s] hl (by simp) 0 _ _ (own_lit0 W #[.string (Str s)] _ 1 _ rfl (by omega) rfl)).mono ?_
    rintro e w1 ⟨rfl, d, rfl⟩
    exact ⟨by simp [hsum], bdrewN ((Below.refl _ _).alloc (Nat.le_refl _) _) _⟩
  have t8 : decide ((s.length : Int) < 8) = false := decide_eq_false (by omega)
  have t8n : decide (s.length < 8) = false := decide_eq_false (by omega)
  have HN : Hid (∀ b0, PNum b0 s 0 false 1 (by8 s 0) (s.drop 1) 1 false) := zh (fun b0 => by
    have := pnum_good b0 s 0 1 (by omega) (by omega) (by omega)
    rw [num_by8 s 0 (by omega)] at this
    exact this)
  have HNW := zh (fun W => new_any (Str s) W)
  have HK := zh (fun b0 W h => part_18 s hs h8 hsum hc b0 W h)
  have HCX := hc
  obtain ⟨c, hcc⟩ : ∃ c, c = by8 s 0 := ⟨_, rfl⟩
  rw [← hcc] at HN HCX
  have t17 : ((c : Int) == 17) = false := by rw [HCX]; rfl
  have t18 : ((c : Int) == 18) = true := by rw [HCX]; rfl
  clear hsum hs h8 hl hcc HCX
  go_enter Tryz.func171, Tryz.ntmps171
  go_upto_region 1 with (fail)
  generalize w.alloc (.cells zz26 28) = W at H0 ⊢
  go_upto_region 5 with (go_at_call 201; (with_reducible refine (HSG.out _).mono ?_); rintro x w1 ⟨rfl, hb⟩; have H1 := zh (H0.out.below hb); clear hb)
  go_upto_region 6 with (go_at_call 82; (with_reducible refine (HNW.out _).mono ?_); rintro x w2 ⟨rfl, hw2⟩; subst hw2)
  have H5 := zh (RB5.start H1.out s)
  generalize (w1.alloc (.cells #[.string (Str s), .int .i64 0, .bool false] 164)).alloc (.cells #[.pointer (some ⟨w1.heap.size, 0, none⟩)] 192) = W5 at H5 ⊢
  generalize w1.heap.size + 1 = bp at H5 ⊢
  generalize w1.heap.size = b0 at H5 ⊢
  have hfm := hfm26 W5
  have H6 := zh H5.out.made
  go_upto_region 7 with (fail)
  generalize aggW (W5.alloc (.cells zz26 28)) W5.heap.size _ = W6 at H6 ⊢
  generalize W5.heap.size = m at H6 ⊢
  clear hfm H0 H1 H5
  obtain ⟨k1, k2, k3⟩ := H6.out.c
  go_upto_region 18 with (first | (go_at_call 206; (with_reducible refine (HN.out _ _ H6.out.rd).mono ?_); rintro x w7 ⟨rfl, h9, k9⟩; have H7 := zh (H6.out.call h9 k9); clear h9 k9 k1 k2 k3; obtain ⟨k1, k2, k3⟩ := H7.out.c) | (go_at_call 208; (with_reducible refine (HK.out _ _ H7.out.rd).mono ?_); rintro x wq ⟨us, ur, e, t, rfl, hs9, hr9, hg9, ho9, he9, h09⟩; have HPT := zh (H7.out.put hg9 hs9 hr9 ho9); have HEE := zh (And.intro he9 h09); clear hs9 hr9 hg9 ho9 he9 h09; obtain ⟨g1, g2, _⟩ := HPT.out))
  have H9 := zh HPT.out.2.2
  generalize aggW wq m _ = w9 at H9 ⊢
  clear k1 k2 k3 g1 g2
  obtain ⟨k1, k2, k3⟩ := H9.out.c
  by_cases he : e = 0
  · have te : (e != 0) = false := by simp [he]
    have HT := zh (HEE.out.2 he)
    have HE := zh (show (readT s).2 = 0 by rw [← HEE.out.1]; exact he)
    clear he
    repeat (first | go_values | go_skip | go_guarded | go_step | go_upon | go_in)
    obtain ⟨q1, q2, q3, q4, q5⟩ := H9.out.done
    exact bodyPost_ret (results_cell2 Tryz.results171 rfl (ld_some q1 (ldr_tk _ _ _))) rfl ⟨us, ur, by rw [← HT.out, HE.out]; rfl, q2, by rw [← HT.out]; exact q5, by rw [← HT.out]; exact q3, by rw [← HT.out]; exact q4⟩
  · have te : (e != 0) = true := by simpa using he
    have HT := zh (readT_zero s (by rw [← HEE.out.1]; exact he))
    clear he
    repeat (first | go_values | go_skip | go_guarded | go_step | go_upon | go_in)
    obtain ⟨q1, q2⟩ := H9.out.ra.zero
    exact bodyPost_ret (results_cell2 Tryz.results171 rfl (ld_some q1 (ldr_tk _ _ _))) rfl ⟨_, _, by rw [HT.out, ← HEE.out.1]; rfl, q2, by rw [HT.out]; exact zeroA_ok, by rw [HT.out]; exact AdsT.nil _, by rw [HT.out]; exact RcT.nil _⟩
theorem read_22 (s : List UInt8) (hs : s.length ≤ 100000) (h8 : 8 ≤ s.length) (hsum : foldN (wsum s) = 65535) (hc : by8 s 0 = 22) (w : World) : Calls Tryz.prog 171 #[.string (Str s)] w fun x w' => ReadP w s x w' := by
  have hsz := Str_size s
  have H0 := zh (RA8.start w)
  have hb0 := bldr_tk0
  have hfz : fok (tkC zeroT (.slice none 0 0) (.slice none 0 0)).toArray 26 = true := fok_tk zeroA_ok rfl rfl
  have hl : ([s] : List (List UInt8)).flatten.length ≤ 1048576 := by simp; omega
  have HSG : Hid (∀ W : World, Calls Tryz.prog 201 #[.slice (some ⟨W.heap.size, 0, none⟩) 1 1] (W.alloc (.cells #[.string (Str s)] 9)) fun e w' => e = .returned (.bool true) ∧ Below W.heap.size W w') := zh fun W => by
    refine (good_own [s] hl (by simp) 0 _ _ (own_lit0 W #[.string (Str s)] _ 1 _ rfl (by omega) rfl)).mono ?_
    rintro e w1 ⟨rfl, d, rfl⟩
    exact ⟨by simp [hsum], bdrewN ((Below.refl _ _).alloc (Nat.le_refl _) _) _⟩
  have t8 : decide ((s.length : Int) < 8) = false := decide_eq_false (by omega)
  have t8n : decide (s.length < 8) = false := decide_eq_false (by omega)
  have HN : Hid (∀ b0, PNum b0 s 0 false 1 (by8 s 0) (s.drop 1) 1 false) := zh (fun b0 => by
    have := pnum_good b0 s 0 1 (by omega) (by omega) (by omega)
    rw [num_by8 s 0 (by omega)] at this
    exact this)
  have HNW := zh (fun W => new_any (Str s) W)
  have HK := zh (fun b0 W h => part_22 s hs h8 hsum hc b0 W h)
  have HCX := hc
  obtain ⟨c, hcc⟩ : ∃ c, c = by8 s 0 := ⟨_, rfl⟩
  rw [← hcc] at HN HCX
  have t17 : ((c : Int) == 17) = false := by rw [HCX]; rfl
  have t18 : ((c : Int) == 18) = false := by rw [HCX]; rfl
  have t22 : ((c : Int) == 22) = true := by rw [HCX]; rfl
  clear hsum hs h8 hl hcc HCX
  go_enter Tryz.func171, Tryz.ntmps171
  go_upto_region 1 with (fail)
  generalize w.alloc (.cells zz26 28) = W at H0 ⊢
  go_upto_region 5 with (go_at_call 201; (with_reducible refine (HSG.out _).mono ?_); rintro x w1 ⟨rfl, hb⟩; have H1 := zh (H0.out.below hb); clear hb)
  go_upto_region 6 with (go_at_call 82; (with_reducible refine (HNW.out _).mono ?_); rintro x w2 ⟨rfl, hw2⟩; subst hw2)
  have H5 := zh (RB5.start H1.out s)
  generalize (w1.alloc (.cells #[.string (Str s), .int .i64 0, .bool false] 164)).alloc (.cells #[.pointer (some ⟨w1.heap.size, 0, none⟩)] 192) = W5 at H5 ⊢
  generalize w1.heap.size + 1 = bp at H5 ⊢
  generalize w1.heap.size = b0 at H5 ⊢
  have hfm := hfm26 W5
  have H6 := zh H5.out.made
  go_upto_region 7 with (fail)
  generalize aggW (W5.alloc (.cells zz26 28)) W5.heap.size _ = W6 at H6 ⊢
  generalize W5.heap.size = m at H6 ⊢
  clear hfm H0 H1 H5
  obtain ⟨k1, k2, k3⟩ := H6.out.c
  go_upto_region 18 with (first | (go_at_call 206; (with_reducible refine (HN.out _ _ H6.out.rd).mono ?_); rintro x w7 ⟨rfl, h9, k9⟩; have H7 := zh (H6.out.call h9 k9); clear h9 k9 k1 k2 k3; obtain ⟨k1, k2, k3⟩ := H7.out.c) | (go_at_call 208; (with_reducible refine (HK.out _ _ H7.out.rd).mono ?_); rintro x wq ⟨us, ur, e, t, rfl, hs9, hr9, hg9, ho9, he9, h09⟩; have HPT := zh (H7.out.put hg9 hs9 hr9 ho9); have HEE := zh (And.intro he9 h09); clear hs9 hr9 hg9 ho9 he9 h09; obtain ⟨g1, g2, _⟩ := HPT.out))
  have H9 := zh HPT.out.2.2
  generalize aggW wq m _ = w9 at H9 ⊢
  clear k1 k2 k3 g1 g2
  obtain ⟨k1, k2, k3⟩ := H9.out.c
  by_cases he : e = 0
  · have te : (e != 0) = false := by simp [he]
    have HT := zh (HEE.out.2 he)
    have HE := zh (show (readT s).2 = 0 by rw [← HEE.out.1]; exact he)
    clear he
    repeat (first | go_values | go_skip | go_guarded | go_step | go_upon | go_in)
    obtain ⟨q1, q2, q3, q4, q5⟩ := H9.out.done
    exact bodyPost_ret (results_cell2 Tryz.results171 rfl (ld_some q1 (ldr_tk _ _ _))) rfl ⟨us, ur, by rw [← HT.out, HE.out]; rfl, q2, by rw [← HT.out]; exact q5, by rw [← HT.out]; exact q3, by rw [← HT.out]; exact q4⟩
  · have te : (e != 0) = true := by simpa using he
    have HT := zh (readT_zero s (by rw [← HEE.out.1]; exact he))
    clear he
    repeat (first | go_values | go_skip | go_guarded | go_step | go_upon | go_in)
    obtain ⟨q1, q2⟩ := H9.out.ra.zero
    exact bodyPost_ret (results_cell2 Tryz.results171 rfl (ld_some q1 (ldr_tk _ _ _))) rfl ⟨_, _, by rw [HT.out, ← HEE.out.1]; rfl, q2, by rw [HT.out]; exact zeroA_ok, by rw [HT.out]; exact AdsT.nil _, by rw [HT.out]; exact RcT.nil _⟩
theorem read_23 (s : List UInt8) (hs : s.length ≤ 100000) (h8 : 8 ≤ s.length) (hsum : foldN (wsum s) = 65535) (hc : by8 s 0 = 23) (w : World) : Calls Tryz.prog 171 #[.string (Str s)] w fun x w' => ReadP w s x w' := by
  have hsz := Str_size s
  have H0 := zh (RA8.start w)
  have hb0 := bldr_tk0
  have hfz : fok (tkC zeroT (.slice none 0 0) (.slice none 0 0)).toArray 26 = true := fok_tk zeroA_ok rfl rfl
  have hl : ([s] : List (List UInt8)).flatten.length ≤ 1048576 := by simp; omega
  have HSG : Hid (∀ W : World, Calls Tryz.prog 201 #[.slice (some ⟨W.heap.size, 0, none⟩) 1 1] (W.alloc (.cells #[.string (Str s)] 9)) fun e w' => e = .returned (.bool true) ∧ Below W.heap.size W w') := zh fun W => by
    refine (good_own [s] hl (by simp) 0 _ _ (own_lit0 W #[.string (Str s)] _ 1 _ rfl (by omega) rfl)).mono ?_
    rintro e w1 ⟨rfl, d, rfl⟩
    exact ⟨by simp [hsum], bdrewN ((Below.refl _ _).alloc (Nat.le_refl _) _) _⟩
  have t8 : decide ((s.length : Int) < 8) = false := decide_eq_false (by omega)
  have t8n : decide (s.length < 8) = false := decide_eq_false (by omega)
  have HN : Hid (∀ b0, PNum b0 s 0 false 1 (by8 s 0) (s.drop 1) 1 false) := zh (fun b0 => by
    have := pnum_good b0 s 0 1 (by omega) (by omega) (by omega)
    rw [num_by8 s 0 (by omega)] at this
    exact this)
  have HNW := zh (fun W => new_any (Str s) W)
  have HK := zh (fun b0 W h => part_23 s hs h8 hsum hc b0 W h)
  have HCX := hc
  obtain ⟨c, hcc⟩ : ∃ c, c = by8 s 0 := ⟨_, rfl⟩
  rw [← hcc] at HN HCX
  have t17 : ((c : Int) == 17) = false := by rw [HCX]; rfl
  have t18 : ((c : Int) == 18) = false := by rw [HCX]; rfl
  have t22 : ((c : Int) == 22) = false := by rw [HCX]; rfl
  have t23 : ((c : Int) == 23) = true := by rw [HCX]; rfl
  clear hsum hs h8 hl hcc HCX
  go_enter Tryz.func171, Tryz.ntmps171
  go_upto_region 1 with (fail)
  generalize w.alloc (.cells zz26 28) = W at H0 ⊢
  go_upto_region 5 with (go_at_call 201; (with_reducible refine (HSG.out _).mono ?_); rintro x w1 ⟨rfl, hb⟩; have H1 := zh (H0.out.below hb); clear hb)
  go_upto_region 6 with (go_at_call 82; (with_reducible refine (HNW.out _).mono ?_); rintro x w2 ⟨rfl, hw2⟩; subst hw2)
  have H5 := zh (RB5.start H1.out s)
  generalize (w1.alloc (.cells #[.string (Str s), .int .i64 0, .bool false] 164)).alloc (.cells #[.pointer (some ⟨w1.heap.size, 0, none⟩)] 192) = W5 at H5 ⊢
  generalize w1.heap.size + 1 = bp at H5 ⊢
  generalize w1.heap.size = b0 at H5 ⊢
  have hfm := hfm26 W5
  have H6 := zh H5.out.made
  go_upto_region 7 with (fail)
  generalize aggW (W5.alloc (.cells zz26 28)) W5.heap.size _ = W6 at H6 ⊢
  generalize W5.heap.size = m at H6 ⊢
  clear hfm H0 H1 H5
  obtain ⟨k1, k2, k3⟩ := H6.out.c
  go_upto_region 18 with (first | (go_at_call 206; (with_reducible refine (HN.out _ _ H6.out.rd).mono ?_); rintro x w7 ⟨rfl, h9, k9⟩; have H7 := zh (H6.out.call h9 k9); clear h9 k9 k1 k2 k3; obtain ⟨k1, k2, k3⟩ := H7.out.c) | (go_at_call 208; (with_reducible refine (HK.out _ _ H7.out.rd).mono ?_); rintro x wq ⟨us, ur, e, t, rfl, hs9, hr9, hg9, ho9, he9, h09⟩; have HPT := zh (H7.out.put hg9 hs9 hr9 ho9); have HEE := zh (And.intro he9 h09); clear hs9 hr9 hg9 ho9 he9 h09; obtain ⟨g1, g2, _⟩ := HPT.out))
  have H9 := zh HPT.out.2.2
  generalize aggW wq m _ = w9 at H9 ⊢
  clear k1 k2 k3 g1 g2
  obtain ⟨k1, k2, k3⟩ := H9.out.c
  by_cases he : e = 0
  · have te : (e != 0) = false := by simp [he]
    have HT := zh (HEE.out.2 he)
    have HE := zh (show (readT s).2 = 0 by rw [← HEE.out.1]; exact he)
    clear he
    repeat (first | go_values | go_skip | go_guarded | go_step | go_upon | go_in)
    obtain ⟨q1, q2, q3, q4, q5⟩ := H9.out.done
    exact bodyPost_ret (results_cell2 Tryz.results171 rfl (ld_some q1 (ldr_tk _ _ _))) rfl ⟨us, ur, by rw [← HT.out, HE.out]; rfl, q2, by rw [← HT.out]; exact q5, by rw [← HT.out]; exact q3, by rw [← HT.out]; exact q4⟩
  · have te : (e != 0) = true := by simpa using he
    have HT := zh (readT_zero s (by rw [← HEE.out.1]; exact he))
    clear he
    repeat (first | go_values | go_skip | go_guarded | go_step | go_upon | go_in)
    obtain ⟨q1, q2⟩ := H9.out.ra.zero
    exact bodyPost_ret (results_cell2 Tryz.results171 rfl (ld_some q1 (ldr_tk _ _ _))) rfl ⟨_, _, by rw [HT.out, ← HEE.out.1]; rfl, q2, by rw [HT.out]; exact zeroA_ok, by rw [HT.out]; exact AdsT.nil _, by rw [HT.out]; exact RcT.nil _⟩
theorem read_34 (s : List UInt8) (hs : s.length ≤ 100000) (h8 : 8 ≤ s.length) (hsum : foldN (wsum s) = 65535) (hc : by8 s 0 = 34) (w : World) : Calls Tryz.prog 171 #[.string (Str s)] w fun x w' => ReadP w s x w' := by
  have hsz := Str_size s
  have H0 := zh (RA8.start w)
  have hb0 := bldr_tk0
  have hfz : fok (tkC zeroT (.slice none 0 0) (.slice none 0 0)).toArray 26 = true := fok_tk zeroA_ok rfl rfl
  have hl : ([s] : List (List UInt8)).flatten.length ≤ 1048576 := by simp; omega
  have HSG : Hid (∀ W : World, Calls Tryz.prog 201 #[.slice (some ⟨W.heap.size, 0, none⟩) 1 1] (W.alloc (.cells #[.string (Str s)] 9)) fun e w' => e = .returned (.bool true) ∧ Below W.heap.size W w') := zh fun W => by
    refine (good_own [s] hl (by simp) 0 _ _ (own_lit0 W #[.string (Str s)] _ 1 _ rfl (by omega) rfl)).mono ?_
    rintro e w1 ⟨rfl, d, rfl⟩
    exact ⟨by simp [hsum], bdrewN ((Below.refl _ _).alloc (Nat.le_refl _) _) _⟩
  have t8 : decide ((s.length : Int) < 8) = false := decide_eq_false (by omega)
  have t8n : decide (s.length < 8) = false := decide_eq_false (by omega)
  have HN : Hid (∀ b0, PNum b0 s 0 false 1 (by8 s 0) (s.drop 1) 1 false) := zh (fun b0 => by
    have := pnum_good b0 s 0 1 (by omega) (by omega) (by omega)
    rw [num_by8 s 0 (by omega)] at this
    exact this)
  have HNW := zh (fun W => new_any (Str s) W)
  have HK := zh (fun b0 W h => part_34 s hs h8 hsum hc b0 W h)
  have HCX := hc
  obtain ⟨c, hcc⟩ : ∃ c, c = by8 s 0 := ⟨_, rfl⟩
  rw [← hcc] at HN HCX
  have t17 : ((c : Int) == 17) = false := by rw [HCX]; rfl
  have t18 : ((c : Int) == 18) = false := by rw [HCX]; rfl
  have t22 : ((c : Int) == 22) = false := by rw [HCX]; rfl
  have t23 : ((c : Int) == 23) = false := by rw [HCX]; rfl
  have t34 : ((c : Int) == 34) = true := by rw [HCX]; rfl
  clear hsum hs h8 hl hcc HCX
  go_enter Tryz.func171, Tryz.ntmps171
  go_upto_region 1 with (fail)
  generalize w.alloc (.cells zz26 28) = W at H0 ⊢
  go_upto_region 5 with (go_at_call 201; (with_reducible refine (HSG.out _).mono ?_); rintro x w1 ⟨rfl, hb⟩; have H1 := zh (H0.out.below hb); clear hb)
  go_upto_region 6 with (go_at_call 82; (with_reducible refine (HNW.out _).mono ?_); rintro x w2 ⟨rfl, hw2⟩; subst hw2)
  have H5 := zh (RB5.start H1.out s)
  generalize (w1.alloc (.cells #[.string (Str s), .int .i64 0, .bool false] 164)).alloc (.cells #[.pointer (some ⟨w1.heap.size, 0, none⟩)] 192) = W5 at H5 ⊢
  generalize w1.heap.size + 1 = bp at H5 ⊢
  generalize w1.heap.size = b0 at H5 ⊢
  have hfm := hfm26 W5
  have H6 := zh H5.out.made
  go_upto_region 7 with (fail)
  generalize aggW (W5.alloc (.cells zz26 28)) W5.heap.size _ = W6 at H6 ⊢
  generalize W5.heap.size = m at H6 ⊢
  clear hfm H0 H1 H5
  obtain ⟨k1, k2, k3⟩ := H6.out.c
  go_upto_region 18 with (first | (go_at_call 206; (with_reducible refine (HN.out _ _ H6.out.rd).mono ?_); rintro x w7 ⟨rfl, h9, k9⟩; have H7 := zh (H6.out.call h9 k9); clear h9 k9 k1 k2 k3; obtain ⟨k1, k2, k3⟩ := H7.out.c) | (go_at_call 209; (with_reducible refine (HK.out _ _ H7.out.rd).mono ?_); rintro x wq ⟨us, ur, e, t, rfl, hs9, hr9, hg9, ho9, he9, h09⟩; have HPT := zh (H7.out.put hg9 hs9 hr9 ho9); have HEE := zh (And.intro he9 h09); clear hs9 hr9 hg9 ho9 he9 h09; obtain ⟨g1, g2, _⟩ := HPT.out))
  have H9 := zh HPT.out.2.2
  generalize aggW wq m _ = w9 at H9 ⊢
  clear k1 k2 k3 g1 g2
  obtain ⟨k1, k2, k3⟩ := H9.out.c
  by_cases he : e = 0
  · have te : (e != 0) = false := by simp [he]
    have HT := zh (HEE.out.2 he)
    have HE := zh (show (readT s).2 = 0 by rw [← HEE.out.1]; exact he)
    clear he
    repeat (first | go_values | go_skip | go_guarded | go_step | go_upon | go_in)
    obtain ⟨q1, q2, q3, q4, q5⟩ := H9.out.done
    exact bodyPost_ret (results_cell2 Tryz.results171 rfl (ld_some q1 (ldr_tk _ _ _))) rfl ⟨us, ur, by rw [← HT.out, HE.out]; rfl, q2, by rw [← HT.out]; exact q5, by rw [← HT.out]; exact q3, by rw [← HT.out]; exact q4⟩
  · have te : (e != 0) = true := by simpa using he
    have HT := zh (readT_zero s (by rw [← HEE.out.1]; exact he))
    clear he
    repeat (first | go_values | go_skip | go_guarded | go_step | go_upon | go_in)
    obtain ⟨q1, q2⟩ := H9.out.ra.zero
    exact bodyPost_ret (results_cell2 Tryz.results171 rfl (ld_some q1 (ldr_tk _ _ _))) rfl ⟨_, _, by rw [HT.out, ← HEE.out.1]; rfl, q2, by rw [HT.out]; exact zeroA_ok, by rw [HT.out]; exact AdsT.nil _, by rw [HT.out]; exact RcT.nil _⟩
theorem read_no (s : List UInt8) (hs : s.length ≤ 100000) (h8 : 8 ≤ s.length) (hsum : foldN (wsum s) = 65535) (hc : by8 s 0 ≠ 17 ∧ by8 s 0 ≠ 18 ∧ by8 s 0 ≠ 22 ∧ by8 s 0 ≠ 23 ∧ by8 s 0 ≠ 34) (w : World) : Calls Tryz.prog 171 #[.string (Str s)] w fun x w' => ReadP w s x w' := by
  have hsz := Str_size s
  have H0 := zh (RA8.start w)
  have hb0 := bldr_tk0
  have hfz : fok (tkC zeroT (.slice none 0 0) (.slice none 0 0)).toArray 26 = true := fok_tk zeroA_ok rfl rfl
  have hl : ([s] : List (List UInt8)).flatten.length ≤ 1048576 := by simp; omega
  have HSG : Hid (∀ W : World, Calls Tryz.prog 201 #[.slice (some ⟨W.heap.size, 0, none⟩) 1 1] (W.alloc (.cells #[.string (Str s)] 9)) fun e w' => e = .returned (.bool true) ∧ Below W.heap.size W w') := zh fun W => by
    refine (good_own [s] hl (by simp) 0 _ _ (own_lit0 W #[.string (Str s)] _ 1 _ rfl (by omega) rfl)).mono ?_
    rintro e w1 ⟨rfl, d, rfl⟩
    exact ⟨by simp [hsum], bdrewN ((Below.refl _ _).alloc (Nat.le_refl _) _) _⟩
  have t8 : decide ((s.length : Int) < 8) = false := decide_eq_false (by omega)
  have t8n : decide (s.length < 8) = false := decide_eq_false (by omega)
  have HN : Hid (∀ b0, PNum b0 s 0 false 1 (by8 s 0) (s.drop 1) 1 false) := zh (fun b0 => by
    have := pnum_good b0 s 0 1 (by omega) (by omega) (by omega)
    rw [num_by8 s 0 (by omega)] at this
    exact this)
  have HNW := zh (fun W => new_any (Str s) W)
  have hT : Hid (readT s = (zeroT, 5)) := zh (by
    unfold readT
    rw [if_neg (by omega), if_neg (by rw [hsum]; simp), if_neg hc.1, if_neg hc.2.2.2.2, if_neg (by omega)])
  have HCX := hc
  obtain ⟨c, hcc⟩ : ∃ c, c = by8 s 0 := ⟨_, rfl⟩
  rw [← hcc] at HN HCX
  have t17 : ((c : Int) == 17) = false := by simp; omega
  have t18 : ((c : Int) == 18) = false := by simp; omega
  have t22 : ((c : Int) == 22) = false := by simp; omega
  have t23 : ((c : Int) == 23) = false := by simp; omega
  have t34 : ((c : Int) == 34) = false := by simp; omega
  clear hsum hs h8 hl hcc HCX
  go_enter Tryz.func171, Tryz.ntmps171
  go_upto_region 1 with (fail)
  generalize w.alloc (.cells zz26 28) = W at H0 ⊢
  go_upto_region 5 with (go_at_call 201; (with_reducible refine (HSG.out _).mono ?_); rintro x w1 ⟨rfl, hb⟩; have H1 := zh (H0.out.below hb); clear hb)
  go_upto_region 6 with (go_at_call 82; (with_reducible refine (HNW.out _).mono ?_); rintro x w2 ⟨rfl, hw2⟩; subst hw2)
  have H5 := zh (RB5.start H1.out s)
  generalize (w1.alloc (.cells #[.string (Str s), .int .i64 0, .bool false] 164)).alloc (.cells #[.pointer (some ⟨w1.heap.size, 0, none⟩)] 192) = W5 at H5 ⊢
  generalize w1.heap.size + 1 = bp at H5 ⊢
  generalize w1.heap.size = b0 at H5 ⊢
  have hfm := hfm26 W5
  have H6 := zh H5.out.made
  go_upto_region 7 with (fail)
  generalize aggW (W5.alloc (.cells zz26 28)) W5.heap.size _ = W6 at H6 ⊢
  generalize W5.heap.size = m at H6 ⊢
  clear hfm H0 H1 H5
  obtain ⟨k1, k2, k3⟩ := H6.out.c
  go_upto_region 18 with (go_at_call 206; (with_reducible refine (HN.out _ _ H6.out.rd).mono ?_); rintro x w7 ⟨rfl, h9, k9⟩; have H7 := zh (H6.out.call h9 k9); clear h9 k9 k1 k2 k3; obtain ⟨k1, k2, k3⟩ := H7.out.c)
  have te : ((5 : Int) != 0) = true := rfl
  repeat (first | go_values | go_skip | go_guarded | go_step | go_upon | go_in)
  obtain ⟨q1, q2⟩ := H7.out.ra.zero
  exact bodyPost_ret (results_cell2 Tryz.results171 rfl (ld_some q1 (ldr_tk _ _ _))) rfl ⟨_, _, by rw [hT.out]; rfl, q2, by rw [hT.out]; exact zeroA_ok, by rw [hT.out]; exact AdsT.nil _, by rw [hT.out]; exact RcT.nil _⟩
theorem read8_typ (s : List UInt8) (hs : s.length ≤ 100000) (w : World) : Calls Tryz.prog 171 #[.string (Str s)] w fun x w' => ReadP w s x w' := by
  by_cases h8 : s.length < 8
  · exact read_end s h8 w
  by_cases hsum : foldN (wsum s) = 65535
  · by_cases c1 : by8 s 0 = 17
    · exact read_17 s hs (by omega) hsum c1 w
    by_cases c2 : by8 s 0 = 18
    · exact read_18 s hs (by omega) hsum c2 w
    by_cases c3 : by8 s 0 = 22
    · exact read_22 s hs (by omega) hsum c3 w
    by_cases c4 : by8 s 0 = 23
    · exact read_23 s hs (by omega) hsum c4 w
    by_cases c5 : by8 s 0 = 34
    · exact read_34 s hs (by omega) hsum c5 w
    exact read_no s hs (by omega) hsum ⟨c1, c2, c3, c4, c5⟩ w
  · exact read_sum s hs (by omega) hsum w
end Go.Proofs.YtlbdehegknehiaaGreat
