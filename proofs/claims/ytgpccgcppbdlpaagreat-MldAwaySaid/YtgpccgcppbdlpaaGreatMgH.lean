/-
  The contracts of mld's Read and Is.
-/
import Derived.Test.YtgpccgcppbdlpaaGreatMgO
import Derived.Test.YtgpccgcppbdlpaaGreatMgZ
import Derived.Test.YtgpccgcppbdlpaaGreatMkD
namespace Go.Proofs.YtgpccgcppbdlpaaGreat
open Go.RowKit
set_option linter.unusedVariables false
set_option linter.unusedSimpArgs false
attribute [local go_sem ↓] ld_addr st_addr bld_addr ld_tk st_tk bld_tk adsLit2_eq
attribute [local go_sem] ldr_addr str_addr ldr_tk str_tk row?_drew_eq

set_option maxRecDepth 100000 in
set_option maxHeartbeats 1000000 in
theorem is9_nil (w : World) : Calls Tryz.prog 14 #[.string (Str [])] w fun x w' => x = .returned (.bool false) ∧ w = w' := by
  have hE : (Str []).toList.isEmpty = true := by rw [ByteArray.toList_eq]; rfl
  go_enter Tryz.func14, Tryz.ntmps14
  go_wp2
  go_ret
  exact ⟨rfl, rfl⟩
set_option maxRecDepth 100000 in
set_option maxHeartbeats 1000000 in
theorem is9_one (s : List UInt8) (h0 : 0 < s.length) (c : Nat) (hc : by8 s 0 = c) (R t0 t1 t2 t3 : Bool) (h1 : ((c : Int) == 130) = t0) (h2 : ((c : Int) == 131) = t1) (h3 : ((c : Int) == 132) = t2) (h4 : ((c : Int) == 143) = t3) (hR : R = (t0 || t1 || t2 || t3)) (w : World) : Calls Tryz.prog 14 #[.string (Str s)] w fun x w' => x = .returned (.bool R) ∧ w = w' := by
  have hsz := Str_size s
  have hE : (Str s).toList.isEmpty = false := by
    rw [ByteArray.toList_eq]
    cases s with
    | nil => simp at h0
    | cons a r => rfl
  have hlen0 : (0 : Int) < (s.length : Int) := by omega
  have hix : ∀ h, ((Str s)[0]'h).toNat = c := fun h => by
    cases s with
    | nil => simp at h0
    | cons a r => rw [← hc]; rfl
  clear hc
  subst hR
  cases t0 with
  | true =>
    go_enter Tryz.func14, Tryz.ntmps14
    go_wp2
    go_ret
    exact ⟨rfl, rfl⟩
  | false =>
    cases t1 with
    | true =>
      go_enter Tryz.func14, Tryz.ntmps14
      go_wp2
      go_ret
      exact ⟨rfl, rfl⟩
    | false =>
      cases t2 with
      | true =>
        go_enter Tryz.func14, Tryz.ntmps14
        go_wp2
        go_ret
        exact ⟨rfl, rfl⟩
      | false =>
        cases t3 with
        | true =>
          go_enter Tryz.func14, Tryz.ntmps14
          go_wp2
          go_ret
          exact ⟨rfl, rfl⟩
        | false =>
          go_enter Tryz.func14, Tryz.ntmps14
          go_wp2
          go_ret
          exact ⟨rfl, rfl⟩
theorem is9_any (s : List UInt8) (hs : s.length ≤ 100000) (w : World) : Calls Tryz.prog 14 #[.string (Str s)] w fun x w' => x = .returned (.bool (isM s)) ∧ Below w.heap.size w w' := by
  by_cases h0 : 0 < s.length
  · refine (is9_one s h0 _ rfl (isM s) _ _ _ _ rfl rfl rfl rfl ?_ w).mono fun x w' h => ⟨h.1, by rw [← h.2]; exact Below.refl _ _⟩
    unfold isM
    rw [decide_eq_true h0, Bool.true_and, Bool.eq_iff_iff]
    simp
    omega
  · have hn : s = [] := by
      cases s with
      | nil => rfl
      | cons a r => simp at h0
    subst hn
    exact (is9_nil w).mono fun x w' h => ⟨h.1, by rw [← h.2]; exact Below.refl _ _⟩
/-- The boxes of the two addresses, the result's block. -/
def BX9 (w W : World) (f g : AD) : Prop := ObjAt W w.heap.size (adC f).toArray 24 ∧ ObjAt W (w.heap.size + 1) (adC g).toArray 24 ∧ ObjAt W (w.heap.size + 2) #[.bool false, .int .i64 0, .int .i64 0, .int .i64 0, .bool false, .int .u8 0, .int .u8 0, .int .u8 0, .int .u8 0, .int .u8 0, .int .u8 0, .int .u8 0, .int .u8 0, .int .u8 0, .int .u8 0, .int .u8 0, .int .u8 0, .int .u8 0, .int .u8 0, .int .u8 0, .int .u8 0, .bool false, .int .i64 0, .int .i64 0, .slice none 0 0, .slice none 0 0] 28 ∧ Below w.heap.size w W
theorem BX9.start (w : World) (f g : AD) : BX9 w (((w.alloc (.cells (adC f).toArray 24)).alloc (.cells (adC g).toArray 24)).alloc (.cells #[.bool false, .int .i64 0, .int .i64 0, .int .i64 0, .bool false, .int .u8 0, .int .u8 0, .int .u8 0, .int .u8 0, .int .u8 0, .int .u8 0, .int .u8 0, .int .u8 0, .int .u8 0, .int .u8 0, .int .u8 0, .int .u8 0, .int .u8 0, .int .u8 0, .int .u8 0, .int .u8 0, .bool false, .int .i64 0, .int .i64 0, .slice none 0 0, .slice none 0 0] 28)) f g := by
  have s1 : (w.alloc (.cells (adC f).toArray 24)).heap.size = w.heap.size + 1 := by simp
  have s2 : ((w.alloc (.cells (adC f).toArray 24)).alloc (.cells (adC g).toArray 24)).heap.size = w.heap.size + 2 := by simp
  have k1 := (Below.refl w.heap.size w).alloc (Nat.le_refl _) (.cells (adC f).toArray 24)
  have k2 := (Below.refl _ (w.alloc (.cells (adC f).toArray 24))).alloc (Nat.le_refl _) (.cells (adC g).toArray 24)
  have k3 := (Below.refl _ ((w.alloc (.cells (adC f).toArray 24)).alloc (.cells (adC g).toArray 24))).alloc (Nat.le_refl _) (.cells #[.bool false, .int .i64 0, .int .i64 0, .int .i64 0, .bool false, .int .u8 0, .int .u8 0, .int .u8 0, .int .u8 0, .int .u8 0, .int .u8 0, .int .u8 0, .int .u8 0, .int .u8 0, .int .u8 0, .int .u8 0, .int .u8 0, .int .u8 0, .int .u8 0, .int .u8 0, .int .u8 0, .bool false, .int .i64 0, .int .i64 0, .slice none 0 0, .slice none 0 0] 28)
  have o1 := ObjAt.made w (adC f).toArray 24
  have o2 := ObjAt.made (w.alloc (.cells (adC f).toArray 24)) (adC g).toArray 24
  rw [s1] at o2
  have o3 := ObjAt.made ((w.alloc (.cells (adC f).toArray 24)).alloc (.cells (adC g).toArray 24)) #[.bool false, .int .i64 0, .int .i64 0, .int .i64 0, .bool false, .int .u8 0, .int .u8 0, .int .u8 0, .int .u8 0, .int .u8 0, .int .u8 0, .int .u8 0, .int .u8 0, .int .u8 0, .int .u8 0, .int .u8 0, .int .u8 0, .int .u8 0, .int .u8 0, .int .u8 0, .int .u8 0, .bool false, .int .i64 0, .int .i64 0, .slice none 0 0, .slice none 0 0] 28
  rw [s2] at o3
  have q1 := o1.below k2 o1.lt
  exact ⟨q1.below k3 q1.lt, o2.below k3 o2.lt, o3, bstep (bstep k1 k2) k3⟩
theorem BX9.below {w W W' : World} {f g : AD} (h : BX9 w W f g) (hb : Below W.heap.size W W') : BX9 w W' f g := ⟨h.1.below hb h.1.lt, h.2.1.below hb h.2.1.lt, h.2.2.1.below hb h.2.2.1.lt, bstep h.2.2.2 hb⟩
theorem BX9.rows {w W : World} {f g : AD} (h : BX9 w W f g) (hf : adOk f) (hg : adOk g) : row? W w.heap.size 0 17 = some (adC f) ∧ row? W (w.heap.size + 1) 0 17 = some (adC g) ∧ free? W (w.heap.size + 2) 0 26 = true :=
  ⟨obj_rowk (A := []) (M := adC f) (C := []) (by simpa using h.1) rfl (adC_length hf), obj_rowk (A := []) (M := adC g) (C := []) (by simpa using h.2.1) rfl (adC_length hg), obj_free h.2.2.1 (by simp)⟩
/-- The result's block alone. -/
def RA9 (w W : World) : Prop := ObjAt W (w.heap.size + 2) #[.bool false, .int .i64 0, .int .i64 0, .int .i64 0, .bool false, .int .u8 0, .int .u8 0, .int .u8 0, .int .u8 0, .int .u8 0, .int .u8 0, .int .u8 0, .int .u8 0, .int .u8 0, .int .u8 0, .int .u8 0, .int .u8 0, .int .u8 0, .int .u8 0, .int .u8 0, .int .u8 0, .bool false, .int .i64 0, .int .i64 0, .slice none 0 0, .slice none 0 0] 28 ∧ Below w.heap.size w W
theorem BX9.ra {w W : World} {f g : AD} (h : BX9 w W f g) : RA9 w W := ⟨h.2.2.1, h.2.2.2⟩
theorem RA9.below {w W W' : World} (h : RA9 w W) (hb : Below W.heap.size W W') : RA9 w W' := ⟨h.1.below hb h.1.lt, bstep h.2 hb⟩
theorem RA9.free {w W : World} (h : RA9 w W) : free? W (w.heap.size + 2) 0 26 = true := obj_free h.1 (by simp)
theorem RA9.zero {w W : World} (h : RA9 w W) : row? (aggW W (w.heap.size + 2) (tkC zeroT (.slice none 0 0) (.slice none 0 0))) (w.heap.size + 2) 0 26 = some (tkC zeroT (.slice none 0 0) (.slice none 0 0)) ∧ Below w.heap.size w (aggW W (w.heap.size + 2) (tkC zeroT (.slice none 0 0) (.slice none 0 0))) :=
  ⟨aggW_row h.free (tkC_length zeroA_ok _ _), aggW_below h.2 (by omega) _⟩
/-- Beside it the reader, a talk that is zero. -/
structure RM9 (w W : World) (b0 m : Nat) (l : List UInt8) (k : Nat) (bad : Bool) : Prop where
  ra : RA9 w W
  rd : RdAt W b0 l k bad
  tk : ObjAt W m (tkC zeroT (.slice none 0 0) (.slice none 0 0)).toArray 28
  l0 : w.heap.size + 2 < b0
  lm : w.heap.size + 2 < m
  n2 : m ≠ b0
theorem RA9.reader {w W : World} (h : RA9 w W) (l : List UInt8) : RA9 w (W.alloc (.cells #[.string (Str l), .int .i64 0, .bool false] 102)) ∧ RdAt (W.alloc (.cells #[.string (Str l), .int .i64 0, .bool false] 102)) W.heap.size l 0 false ∧ w.heap.size + 2 < W.heap.size ∧ W.heap.size < (W.alloc (.cells #[.string (Str l), .int .i64 0, .bool false] 102)).heap.size :=
  ⟨h.below ((Below.refl _ _).alloc (Nat.le_refl _) _), ObjAt.made W _ _, h.1.lt, by simp⟩
theorem RM9.made {w W : World} {b0 : Nat} {l : List UInt8} {k : Nat} {bad : Bool} (h : RA9 w W) (hr : RdAt W b0 l k bad) (l0 : w.heap.size + 2 < b0) : RM9 w (aggW (W.alloc (.cells #[.bool false, .int .i64 0, .int .i64 0, .int .i64 0, .bool false, .int .u8 0, .int .u8 0, .int .u8 0, .int .u8 0, .int .u8 0, .int .u8 0, .int .u8 0, .int .u8 0, .int .u8 0, .int .u8 0, .int .u8 0, .int .u8 0, .int .u8 0, .int .u8 0, .int .u8 0, .int .u8 0, .bool false, .int .i64 0, .int .i64 0, .slice none 0 0, .slice none 0 0] 28)) W.heap.size (tkC zeroT (.slice none 0 0) (.slice none 0 0))) b0 W.heap.size l k bad := by
  have hm := TM.made (w := W) (t := zeroT) (Below.refl _ _) zeroA_ok (Ads.nil W) (Rcs.nil W)
  have hz := ObjAt.lt hr
  exact ⟨h.below hm.blw, ObjAt.below hr hm.blw hz, hm.tk.1, l0, h.1.lt, by omega⟩
theorem RM9.c {w W : World} {b0 m : Nat} {l : List UInt8} {k : Nat} {bad : Bool} (h : RM9 w W b0 m l k bad) : free? W (w.heap.size + 2) 0 26 = true ∧ row? W m 0 26 = some (tkC zeroT (.slice none 0 0) (.slice none 0 0)) :=
  ⟨h.ra.free, obj_rowk (A := []) (M := tkC zeroT (.slice none 0 0) (.slice none 0 0)) (C := []) (by simpa using h.tk) rfl (tkC_length zeroA_ok _ _)⟩
/-- A talk that has been read. -/
structure RC9m (w W : World) (m : Nat) (t : TK) (us ur : Value) : Prop where
  ra : RA9 w W
  tk : TkAt W m t us ur
  src : AdsT W us t.src
  rcs : RcT W ur t.rcs
theorem RM9.put {w W W' : World} {b0 m : Nat} {l : List UInt8} {k : Nat} {bad : Bool} {t : TK} {us ur : Value} (h : RM9 w W b0 m l k bad) (hg : W.grownBy W' (some b0)) (hs : AdsT W' us t.src) (hr : RcT W' ur t.rcs) (ho : adOk t.g) :
    free? W' m 0 26 = true ∧ fok (tkC t us ur).toArray 26 = true ∧ RC9m w (aggW W' m (tkC t us ur)) m t us ur := by
  have l0 := h.l0; have lm := h.lm
  have h1 := ObjAt.grown h.ra.1 hg (by simp; omega)
  have h2 := bgrown h.ra.2 hg (fun k hk => by simp at hk; omega)
  have h3 := ObjAt.grown h.tk hg (by simpa using h.n2)
  exact ⟨obj_free h3 (by have := tkC_length (t := zeroT) zeroA_ok (.slice none 0 0) (.slice none 0 0); simp; omega), fok_tk ho hs.1.one hr.rcs.one, ⟨aggW_other h1 _ (by omega), aggW_below h2 (by omega) _⟩, ⟨aggW_obj h3 (by rw [tkC_length ho, tkC_length zeroA_ok]) (tkC_one hs.1.one hr.rcs.one), ho⟩, hs.far9 h3 (by decide) (aggW_grown _ _ _), hr.far9 h3 (by decide) (by decide) (aggW_grown _ _ _)⟩
theorem RC9m.c {w W : World} {m : Nat} {t : TK} {us ur : Value} (h : RC9m w W m t us ur) : row? W m 0 26 = some (tkC t us ur) ∧ free? W (w.heap.size + 2) 0 26 = true ∧ fok (tkC t us ur).toArray 26 = true := ⟨h.tk.row, h.ra.free, fok_tk h.tk.2 h.src.1.one h.rcs.rcs.one⟩
theorem RC9m.done {w W : World} {m : Nat} {t : TK} {us ur : Value} (h : RC9m w W m t us ur) : row? (aggW W (w.heap.size + 2) (tkC t us ur)) (w.heap.size + 2) 0 26 = some (tkC t us ur) ∧ Below w.heap.size w (aggW W (w.heap.size + 2) (tkC t us ur)) ∧ AdsT (aggW W (w.heap.size + 2) (tkC t us ur)) us t.src ∧ RcT (aggW W (w.heap.size + 2) (tkC t us ur)) ur t.rcs ∧ adOk t.g :=
  ⟨aggW_row h.ra.free (tkC_length h.tk.2 _ _), aggW_below h.ra.2 (by omega) _, h.src.far9 h.ra.1 (by decide) (aggW_grown _ _ _), h.rcs.far9 h.ra.1 (by decide) (by decide) (aggW_grown _ _ _), h.tk.2⟩
theorem readM_zero (P s : List UInt8) (h : (readM P s).2 ≠ 0) : (readM P s).1 = zeroT := by
  unfold readM at h ⊢
  split at h
  · rename_i a; rw [if_pos a]
  rename_i a; rw [if_neg a]
  split at h
  · rename_i a; rw [if_pos a]
  rename_i a; rw [if_neg a]
  split at h
  · rename_i a; rw [if_pos a]; exact (one9_or s).resolve_left h
  rename_i a; rw [if_neg a]
  repeat' split at h
  all_goals (try simp_all)
  all_goals (repeat' split)
  all_goals rfl
set_option maxRecDepth 100000 in
set_option maxHeartbeats 4000000 in
theorem m9read_v4 (f g : AD) (hf : adOk f) (hg : adOk g) (s : List UInt8) (hs : s.length ≤ 100000) (hv : (f.1 && g.1) = false) (w : World) : Calls Tryz.prog 11 #[.string (Str s), .agg (adC f).toArray, .agg (adC g).toArray] w fun x w' => ReadV w f g s x w' := by
  have hsz := Str_size s
  have HB0 := Lib.hid (BX9.start w f g)
  have HROW := Lib.hid (fun W (h : BX9 w W f g) => h.rows hf hg)
  have hb0 := bldr_tk0
  have hfz : fok (tkC zeroT (.slice none 0 0) (.slice none 0 0)).toArray 26 = true := fok_tk zeroA_ok rfl rfl
  have hlit := adsLit2_run f g hf hg
  have HL2 := Lib.hid (fun W => Ads.lit2 W f g hf hg)
  have HBL := Lib.hid (fun W : World => balloc W (.cells (adC f ++ adC g).toArray 24))
  have HSX : Hid (∀ W, Calls Tryz.prog 19 #[.slice (some ⟨W.heap.size, 0, none⟩) 2 2] (W.alloc (.cells (adC f ++ adC g).toArray 24)) fun x w' => x = .returned (.bool false) ∧ Below W.heap.size W w') := Lib.hid fun W => by
    refine (six9_any _ [f, g] _ (HL2.out W)).mono ?_
    rintro x w' ⟨rfl, hb⟩
    exact ⟨ret_bool8 (by simp [isV6]; cases hf1 : f.1 <;> simp_all), bstep (HBL.out W) hb⟩
  have hT : Hid (rd9 f g s = (zeroT, 1)) := Lib.hid (by unfold rd9; rw [hv]; rfl)
  clear hv
  go_enter Tryz.func11, Tryz.ntmps11
  go_upto_region 1 with (fail)
  generalize ((w.alloc (.cells (adC f).toArray 24)).alloc (.cells (adC g).toArray 24)).alloc (.cells #[.bool false, .int .i64 0, .int .i64 0, .int .i64 0, .bool false, .int .u8 0, .int .u8 0, .int .u8 0, .int .u8 0, .int .u8 0, .int .u8 0, .int .u8 0, .int .u8 0, .int .u8 0, .int .u8 0, .int .u8 0, .int .u8 0, .int .u8 0, .int .u8 0, .int .u8 0, .int .u8 0, .bool false, .int .i64 0, .int .i64 0, .slice none 0 0, .slice none 0 0] 28) = W at HB0 ⊢
  obtain ⟨r1, r2, hfr⟩ := HROW.out _ HB0.out
  go_upto_region 2 with (go_at_call 19; (with_reducible refine (HSX.out _).mono ?_); rintro x w1 ⟨rfl, hb⟩; have HB1 := Lib.hid (HB0.out.below hb); clear hb r1 r2 hfr; obtain ⟨r1, r2, hfr⟩ := HROW.out _ HB1.out)
  repeat (first | go_values | go_skip | go_guarded | go_step | go_upon | go_in)
  obtain ⟨q1, q2⟩ := HB1.out.ra.zero
  exact bodyPost_ret (results_cell2 Tryz.results11 rfl (ld_some q1 (ldr_tk _ _ _))) rfl ⟨_, _, by rw [hT.out]; rfl, q2, by rw [hT.out]; exact zeroA_ok, by rw [hT.out]; exact AdsT.nil _, by rw [hT.out]; exact RcT.nil _⟩
set_option maxRecDepth 100000 in
set_option maxHeartbeats 4000000 in
theorem m9read_end (f g : AD) (hf : adOk f) (hg : adOk g) (s : List UInt8) (hs : s.length ≤ 100000) (hv : (f.1 && g.1) = true) (h8 : s.length < 8) (w : World) : Calls Tryz.prog 11 #[.string (Str s), .agg (adC f).toArray, .agg (adC g).toArray] w fun x w' => ReadV w f g s x w' := by
  have hsz := Str_size s
  have HB0 := Lib.hid (BX9.start w f g)
  have HROW := Lib.hid (fun W (h : BX9 w W f g) => h.rows hf hg)
  have hb0 := bldr_tk0
  have hfz : fok (tkC zeroT (.slice none 0 0) (.slice none 0 0)).toArray 26 = true := fok_tk zeroA_ok rfl rfl
  have hlit := adsLit2_run f g hf hg
  have HL2 := Lib.hid (fun W => Ads.lit2 W f g hf hg)
  have HBL := Lib.hid (fun W : World => balloc W (.cells (adC f ++ adC g).toArray 24))
  have HSX : Hid (∀ W, Calls Tryz.prog 19 #[.slice (some ⟨W.heap.size, 0, none⟩) 2 2] (W.alloc (.cells (adC f ++ adC g).toArray 24)) fun x w' => x = .returned (.bool true) ∧ Below W.heap.size W w') := Lib.hid fun W => by
    refine (six9_any _ [f, g] _ (HL2.out W)).mono ?_
    rintro x w' ⟨rfl, hb⟩
    exact ⟨ret_bool8 (by simp [isV6]; exact Bool.and_eq_true_iff.1 hv), bstep (HBL.out W) hb⟩
  have hT : Hid (rd9 f g s = (zeroT, 3)) := Lib.hid (by unfold rd9 readM; rw [if_pos hv, if_pos h8])
  have t8 : decide ((s.length : Int) < 8) = true := decide_eq_true (by omega)
  have t8n : decide (s.length < 8) = true := decide_eq_true (by omega)
  clear hv h8
  go_enter Tryz.func11, Tryz.ntmps11
  go_upto_region 1 with (fail)
  generalize ((w.alloc (.cells (adC f).toArray 24)).alloc (.cells (adC g).toArray 24)).alloc (.cells #[.bool false, .int .i64 0, .int .i64 0, .int .i64 0, .bool false, .int .u8 0, .int .u8 0, .int .u8 0, .int .u8 0, .int .u8 0, .int .u8 0, .int .u8 0, .int .u8 0, .int .u8 0, .int .u8 0, .int .u8 0, .int .u8 0, .int .u8 0, .int .u8 0, .int .u8 0, .int .u8 0, .bool false, .int .i64 0, .int .i64 0, .slice none 0 0, .slice none 0 0] 28) = W at HB0 ⊢
  obtain ⟨r1, r2, hfr⟩ := HROW.out _ HB0.out
  go_upto_region 4 with (go_at_call 19; (with_reducible refine (HSX.out _).mono ?_); rintro x w1 ⟨rfl, hb⟩; have HB1 := Lib.hid (HB0.out.below hb); clear hb r1 r2 hfr; obtain ⟨r1, r2, hfr⟩ := HROW.out _ HB1.out)
  repeat (first | go_values | go_skip | go_guarded | go_step | go_upon | go_in)
  obtain ⟨q1, q2⟩ := HB1.out.ra.zero
  exact bodyPost_ret (results_cell2 Tryz.results11 rfl (ld_some q1 (ldr_tk _ _ _))) rfl ⟨_, _, by rw [hT.out]; rfl, q2, by rw [hT.out]; exact zeroA_ok, by rw [hT.out]; exact AdsT.nil _, by rw [hT.out]; exact RcT.nil _⟩
set_option maxRecDepth 100000 in
set_option maxHeartbeats 4000000 in
theorem m9read_sum (f g : AD) (hf : adOk f) (hg : adOk g) (s : List UInt8) (hs : s.length ≤ 100000) (hv : (f.1 && g.1) = true) (h8 : 8 ≤ s.length) (hsum : foldN (wsum (psM f g s.length ++ s)) ≠ 65535) (w : World) : Calls Tryz.prog 11 #[.string (Str s), .agg (adC f).toArray, .agg (adC g).toArray] w fun x w' => ReadV w f g s x w' := by
  have hsz := Str_size s
  have HB0 := Lib.hid (BX9.start w f g)
  have HROW := Lib.hid (fun W (h : BX9 w W f g) => h.rows hf hg)
  have hb0 := bldr_tk0
  have hfz : fok (tkC zeroT (.slice none 0 0) (.slice none 0 0)).toArray 26 = true := fok_tk zeroA_ok rfl rfl
  have hlit := adsLit2_run f g hf hg
  have HL2 := Lib.hid (fun W => Ads.lit2 W f g hf hg)
  have HBL := Lib.hid (fun W : World => balloc W (.cells (adC f ++ adC g).toArray 24))
  have HSX : Hid (∀ W, Calls Tryz.prog 19 #[.slice (some ⟨W.heap.size, 0, none⟩) 2 2] (W.alloc (.cells (adC f ++ adC g).toArray 24)) fun x w' => x = .returned (.bool true) ∧ Below W.heap.size W w') := Lib.hid fun W => by
    refine (six9_any _ [f, g] _ (HL2.out W)).mono ?_
    rintro x w' ⟨rfl, hb⟩
    exact ⟨ret_bool8 (by simp [isV6]; exact Bool.and_eq_true_iff.1 hv), bstep (HBL.out W) hb⟩
  have t8 : decide ((s.length : Int) < 8) = false := decide_eq_false (by omega)
  have t8n : decide (s.length < 8) = false := decide_eq_false (by omega)
  obtain ⟨P, hP⟩ : ∃ P, P = psM f g s.length := ⟨_, rfl⟩
  have hPl := psM_length hf hg s.length
  have HPS : Hid (∀ W, Calls Tryz.prog 24 #[.agg (adC f).toArray, .agg (adC g).toArray, .int .i64 (s.length : Nat)] W fun x w' => x = .returned (.string (Str P)) ∧ Below W.heap.size W w') := Lib.hid fun W => by
    rw [hP]; exact pseudo9_any f g hf hg (Bool.and_eq_true_iff.1 hv).1 s.length (by omega) W
  have hRD : rd9 f g s = readM P s := by unfold rd9; rw [if_pos hv, ← hP]
  rw [← hP] at hPl hsum
  have hl : ([P, s] : List (List UInt8)).flatten.length ≤ 1048576 := by simp; omega
  have HSG : Hid (∀ W : World, Calls Tryz.prog 43 #[.slice (some ⟨W.heap.size, 0, none⟩) 2 2] (W.alloc (.cells #[.string (Str P), .string (Str s)] 9)) fun e w' => e = .returned (.bool false) ∧ Below W.heap.size W w') := Lib.hid fun W => by
    refine (good_own [P, s] hl (by simp) 0 _ _ (own_lit0 W #[.string (Str P), .string (Str s)] _ 2 _ rfl (by omega) rfl)).mono ?_
    rintro e w1 ⟨rfl, d, rfl⟩
    exact ⟨by simp [hsum], bdrewN ((Below.refl _ _).alloc (Nat.le_refl _) _) _⟩
  have hT : Hid (rd9 f g s = (zeroT, 4)) := Lib.hid (by rw [hRD]; unfold readM; rw [if_neg (by omega), if_pos hsum])
  clear hv h8 hP hPl hsum hRD hl hs
  go_enter Tryz.func11, Tryz.ntmps11
  go_upto_region 1 with (fail)
  generalize ((w.alloc (.cells (adC f).toArray 24)).alloc (.cells (adC g).toArray 24)).alloc (.cells #[.bool false, .int .i64 0, .int .i64 0, .int .i64 0, .bool false, .int .u8 0, .int .u8 0, .int .u8 0, .int .u8 0, .int .u8 0, .int .u8 0, .int .u8 0, .int .u8 0, .int .u8 0, .int .u8 0, .int .u8 0, .int .u8 0, .int .u8 0, .int .u8 0, .int .u8 0, .int .u8 0, .bool false, .int .i64 0, .int .i64 0, .slice none 0 0, .slice none 0 0] 28) = W at HB0 ⊢
  obtain ⟨r1, r2, hfr⟩ := HROW.out _ HB0.out
  go_upto_region 6 with (first | (go_at_call 19; (with_reducible refine (HSX.out _).mono ?_); rintro x w1 ⟨rfl, hb⟩; have HB1 := Lib.hid (HB0.out.below hb); clear hb r1 r2 hfr; obtain ⟨r1, r2, hfr⟩ := HROW.out _ HB1.out) | (go_at_call 24; (with_reducible refine (HPS.out _).mono ?_); rintro x w2 ⟨rfl, hb⟩; have HB2 := Lib.hid (HB1.out.below hb); clear hb r1 r2 hfr; obtain ⟨r1, r2, hfr⟩ := HROW.out _ HB2.out) | (go_at_call 43; (with_reducible refine (HSG.out _).mono ?_); rintro x w3 ⟨rfl, hb⟩; have HB3 := Lib.hid (HB2.out.below hb); clear hb r1 r2 hfr; obtain ⟨r1, r2, hfr⟩ := HROW.out _ HB3.out))
  repeat (first | go_values | go_skip | go_guarded | go_step | go_upon | go_in)
  obtain ⟨q1, q2⟩ := HB3.out.ra.zero
  exact bodyPost_ret (results_cell2 Tryz.results11 rfl (ld_some q1 (ldr_tk _ _ _))) rfl ⟨_, _, by rw [hT.out]; rfl, q2, by rw [hT.out]; exact zeroA_ok, by rw [hT.out]; exact AdsT.nil _, by rw [hT.out]; exact RcT.nil _⟩
theorem m9part_130 (P s : List UInt8) (hs : s.length ≤ 100000) (h8 : 8 ≤ s.length) (hsum : foldN (wsum (P ++ s)) = 65535) (hc : by8 s 0 = 130) (b0 : Nat) (W : World) (h : RdAt W b0 (s.drop 4) 0 false) : Calls Tryz.prog 45 #[rp b0] W fun x W' => PartV W W' b0 (readM P s) x := by
  have hT : readM P s = one9 s := by
    unfold readM
    rw [if_neg (by omega), if_neg (by rw [hsum]; simp), if_pos (by omega)]
  rw [hT]
  exact m9query_any W b0 s hs h8 hc h
theorem m9part_131 (P s : List UInt8) (hs : s.length ≤ 100000) (h8 : 8 ≤ s.length) (hsum : foldN (wsum (P ++ s)) = 65535) (hc : by8 s 0 = 131) (b0 : Nat) (W : World) (h : RdAt W b0 (s.drop 4) 0 false) : Calls Tryz.prog 46 #[rp b0, .int .i64 2] W fun x W' => PartV W W' b0 (readM P s) x := by
  have hT : readM P s = one9 s := by
    unfold readM
    rw [if_neg (by omega), if_neg (by rw [hsum]; simp), if_pos (by omega)]
  rw [hT]
  exact m9member_any 2 (by omega) W b0 s hs h8 hc h
theorem m9part_132 (P s : List UInt8) (hs : s.length ≤ 100000) (h8 : 8 ≤ s.length) (hsum : foldN (wsum (P ++ s)) = 65535) (hc : by8 s 0 = 132) (b0 : Nat) (W : World) (h : RdAt W b0 (s.drop 4) 0 false) : Calls Tryz.prog 46 #[rp b0, .int .i64 3] W fun x W' => PartV W W' b0 (readM P s) x := by
  have hT : readM P s = one9 s := by
    unfold readM
    rw [if_neg (by omega), if_neg (by rw [hsum]; simp), if_pos (by omega)]
  rw [hT]
  exact m9member_any 3 (by omega) W b0 s hs h8 hc h
theorem m9part_143 (P s : List UInt8) (hs : s.length ≤ 100000) (h8 : 8 ≤ s.length) (hsum : foldN (wsum (P ++ s)) = 65535) (hc : by8 s 0 = 143) (b0 : Nat) (W : World) (h : RdAt W b0 (s.drop 4) 0 false) : Calls Tryz.prog 47 #[rp b0] W fun x W' => PartV W W' b0 (readM P s) x := by
  have hT : readM P s = if 64 < wd s 6 then (zeroT, 6) else if (recL9 s 8 (wd s 6)).2 ≠ 0 then (zeroT, (recL9 s 8 (wd s 6)).2) else (⟨true, 2, 2, 0, zeroA, false, 0, 0, [], (recL9 s 8 (wd s 6)).1⟩, 0) := by
    unfold readM
    rw [if_neg (by omega), if_neg (by rw [hsum]; simp), if_neg (by omega), if_pos hc]
  refine (m9report_any W b0 s hs h8 h).mono ?_
  rintro x W' ⟨e, ur, rcs, rfl, h1, h2, h3, h4⟩
  refine ⟨_, ur, e, rep9W rcs, rfl, AdsT.nil _, h2, h3, zeroA_ok, ?_, ?_⟩
  · rw [h1, hT]; unfold recE9
    by_cases a : 64 < wd s 6
    · rw [if_pos a, if_pos a]
    · rw [if_neg a, if_neg a]
      by_cases b : (recL9 s 8 (wd s 6)).2 = 0
      · rw [if_neg (by rw [b]; simp)]; exact b
      · rw [if_pos b]
  · intro h0
    have h5 := h4 h0
    rw [h1] at h0
    unfold recE9 at h0
    by_cases a : 64 < wd s 6
    · rw [if_pos a] at h0; cases h0
    · rw [if_neg a] at h0
      rw [hT, if_neg a, if_neg (by rw [h0]; simp), h5]; rfl
set_option maxRecDepth 100000 in
set_option maxHeartbeats 4000000 in
theorem m9read_130 (f g : AD) (hf : adOk f) (hg : adOk g) (s : List UInt8) (hs : s.length ≤ 100000) (hv : (f.1 && g.1) = true) (h8 : 8 ≤ s.length) (hsum : foldN (wsum (psM f g s.length ++ s)) = 65535) (hc : by8 s 0 = 130) (w : World) : Calls Tryz.prog 11 #[.string (Str s), .agg (adC f).toArray, .agg (adC g).toArray] w fun x w' => ReadV w f g s x w' := by
  have hsz := Str_size s
  have HB0 := Lib.hid (BX9.start w f g)
  have HROW := Lib.hid (fun W (h : BX9 w W f g) => h.rows hf hg)
  have hb0 := bldr_tk0
  have hfz : fok (tkC zeroT (.slice none 0 0) (.slice none 0 0)).toArray 26 = true := fok_tk zeroA_ok rfl rfl
  have hlit := adsLit2_run f g hf hg
  have HL2 := Lib.hid (fun W => Ads.lit2 W f g hf hg)
  have HBL := Lib.hid (fun W : World => balloc W (.cells (adC f ++ adC g).toArray 24))
  have HSX : Hid (∀ W, Calls Tryz.prog 19 #[.slice (some ⟨W.heap.size, 0, none⟩) 2 2] (W.alloc (.cells (adC f ++ adC g).toArray 24)) fun x w' => x = .returned (.bool true) ∧ Below W.heap.size W w') := Lib.hid fun W => by
    refine (six9_any _ [f, g] _ (HL2.out W)).mono ?_
    rintro x w' ⟨rfl, hb⟩
    exact ⟨ret_bool8 (by simp [isV6]; exact Bool.and_eq_true_iff.1 hv), bstep (HBL.out W) hb⟩
  have t8 : decide ((s.length : Int) < 8) = false := decide_eq_false (by omega)
  have t8n : decide (s.length < 8) = false := decide_eq_false (by omega)
  obtain ⟨P, hP⟩ : ∃ P, P = psM f g s.length := ⟨_, rfl⟩
  have hPl := psM_length hf hg s.length
  have HPS : Hid (∀ W, Calls Tryz.prog 24 #[.agg (adC f).toArray, .agg (adC g).toArray, .int .i64 (s.length : Nat)] W fun x w' => x = .returned (.string (Str P)) ∧ Below W.heap.size W w') := Lib.hid fun W => by
    rw [hP]; exact pseudo9_any f g hf hg (Bool.and_eq_true_iff.1 hv).1 s.length (by omega) W
  have hRD : rd9 f g s = readM P s := by unfold rd9; rw [if_pos hv, ← hP]
  rw [← hP] at hPl hsum
  have hl : ([P, s] : List (List UInt8)).flatten.length ≤ 1048576 := by simp; omega
  have HSG : Hid (∀ W : World, Calls Tryz.prog 43 #[.slice (some ⟨W.heap.size, 0, none⟩) 2 2] (W.alloc (.cells #[.string (Str P), .string (Str s)] 9)) fun e w' => e = .returned (.bool true) ∧ Below W.heap.size W w') := Lib.hid fun W => by
    refine (good_own [P, s] hl (by simp) 0 _ _ (own_lit0 W #[.string (Str P), .string (Str s)] _ 2 _ rfl (by omega) rfl)).mono ?_
    rintro e w1 ⟨rfl, d, rfl⟩
    exact ⟨by simp [hsum], bdrewN ((Below.refl _ _).alloc (Nat.le_refl _) _) _⟩
  have hex : (Str s).extract 4 s.length = Str (s.drop 4) := by rw [Str_extract, List.take_of_length_le (by simp)]
  have HNW := Lib.hid (fun W => new_any (Str (s.drop 4)) W)
  have hlen : (4 : Int) ≤ (s.length : Int) := by omega
  have hlen0 : (0 : Int) < (s.length : Int) := by omega
  have hlen0n : 0 < s.length := by omega
  have hix : ∀ h, ((Str s)[0]'h).toNat = by8 s 0 := fun h => by
    cases s with
    | nil => simp at h8
    | cons a r => rfl
  have HK := Lib.hid (fun b0 W h => m9part_130 P s hs h8 hsum hc b0 W h)
  have HCX := hc
  have HX := hc
  have HZT := Lib.hid (readM_zero P s)
  obtain ⟨c, hcc⟩ : ∃ c, c = by8 s 0 := ⟨_, rfl⟩
  rw [← hcc] at hix HCX
  have t130 : ((c : Int) == 130) = true := by rw [HCX]; rfl
  have HRD := Lib.hid hRD
  clear hv h8 hP hPl hsum hRD hl hs hcc HCX HX
  go_enter Tryz.func11, Tryz.ntmps11
  go_upto_region 1 with (fail)
  generalize ((w.alloc (.cells (adC f).toArray 24)).alloc (.cells (adC g).toArray 24)).alloc (.cells #[.bool false, .int .i64 0, .int .i64 0, .int .i64 0, .bool false, .int .u8 0, .int .u8 0, .int .u8 0, .int .u8 0, .int .u8 0, .int .u8 0, .int .u8 0, .int .u8 0, .int .u8 0, .int .u8 0, .int .u8 0, .int .u8 0, .int .u8 0, .int .u8 0, .int .u8 0, .int .u8 0, .bool false, .int .i64 0, .int .i64 0, .slice none 0 0, .slice none 0 0] 28) = W at HB0 ⊢
  obtain ⟨r1, r2, hfr⟩ := HROW.out _ HB0.out
  go_upto_region 7 with (first | (go_at_call 19; (with_reducible refine (HSX.out _).mono ?_); rintro x w1 ⟨rfl, hb⟩; have HB1 := Lib.hid (HB0.out.below hb); clear hb r1 r2 hfr; obtain ⟨r1, r2, hfr⟩ := HROW.out _ HB1.out) | (go_at_call 24; (with_reducible refine (HPS.out _).mono ?_); rintro x w2 ⟨rfl, hb⟩; have HB2 := Lib.hid (HB1.out.below hb); clear hb r1 r2 hfr; obtain ⟨r1, r2, hfr⟩ := HROW.out _ HB2.out) | (go_at_call 43; (with_reducible refine (HSG.out _).mono ?_); rintro x w3 ⟨rfl, hb⟩; have HB3 := Lib.hid (HB2.out.below hb); clear hb r1 r2 hfr; obtain ⟨r1, r2, hfr⟩ := HROW.out _ HB3.out))
  go_upto_region 8 with (go_at_call 44; (with_reducible refine (HNW.out _).mono ?_); rintro x w4 ⟨rfl, hw⟩; subst hw)
  have H5 := Lib.hid (HB3.out.ra.reader (s.drop 4))
  generalize w3.alloc (.cells #[.string (Str (s.drop 4)), .int .i64 0, .bool false] 102) = W5 at H5 ⊢
  generalize w3.heap.size = b0 at H5 ⊢
  have hfm := hfm26 W5
  have H6 := Lib.hid (RM9.made H5.out.1 H5.out.2.1 H5.out.2.2.1)
  go_upto_region 9 with (fail)
  generalize aggW (W5.alloc (.cells #[.bool false, .int .i64 0, .int .i64 0, .int .i64 0, .bool false, .int .u8 0, .int .u8 0, .int .u8 0, .int .u8 0, .int .u8 0, .int .u8 0, .int .u8 0, .int .u8 0, .int .u8 0, .int .u8 0, .int .u8 0, .int .u8 0, .int .u8 0, .int .u8 0, .int .u8 0, .int .u8 0, .bool false, .int .i64 0, .int .i64 0, .slice none 0 0, .slice none 0 0] 28)) W5.heap.size _ = W6 at H6 ⊢
  generalize W5.heap.size = m at H6 ⊢
  clear hfm HB0 HB1 HB2 HB3 H5 r1 r2 hfr
  obtain ⟨k1, k2⟩ := H6.out.c
  go_upto_region 18 with (go_at_call 45; (with_reducible refine (HK.out _ _ H6.out.rd).mono ?_); rintro x wq ⟨us, ur, e, t, rfl, hs9, hr9, hg9, ho9, he9, h09⟩; have HPT := Lib.hid (H6.out.put hg9 hs9 hr9 ho9); have HEE := Lib.hid (And.intro he9 h09); clear hs9 hr9 hg9 ho9 he9 h09; obtain ⟨g1, g2, _⟩ := HPT.out)
  have H9 := Lib.hid HPT.out.2.2
  generalize aggW wq m _ = w9 at H9 ⊢
  clear k1 k2 g1 g2
  obtain ⟨k1, k2, k3⟩ := H9.out.c
  by_cases he : e = 0
  · have te : (e != 0) = false := by simp [he]
    have HT := Lib.hid (HEE.out.2 he)
    have HE := Lib.hid (show (readM P s).2 = 0 by rw [← HEE.out.1]; exact he)
    clear he
    repeat (first | go_values | go_skip | go_guarded | go_step | go_upon | go_in)
    obtain ⟨q1, q2, q3, q4, q5⟩ := H9.out.done
    exact bodyPost_ret (results_cell2 Tryz.results11 rfl (ld_some q1 (ldr_tk _ _ _))) rfl ⟨us, ur, by rw [HRD.out, ← HT.out, HE.out]; rfl, q2, by rw [HRD.out, ← HT.out]; exact q5, by rw [HRD.out, ← HT.out]; exact q3, by rw [HRD.out, ← HT.out]; exact q4⟩
  · have te : (e != 0) = true := by simpa using he
    have HT := Lib.hid (HZT.out (by rw [← HEE.out.1]; exact he))
    clear he
    repeat (first | go_values | go_skip | go_guarded | go_step | go_upon | go_in)
    obtain ⟨q1, q2⟩ := H9.out.ra.zero
    exact bodyPost_ret (results_cell2 Tryz.results11 rfl (ld_some q1 (ldr_tk _ _ _))) rfl ⟨_, _, by rw [HRD.out, HT.out, ← HEE.out.1]; rfl, q2, by rw [HRD.out, HT.out]; exact zeroA_ok, by rw [HRD.out, HT.out]; exact AdsT.nil _, by rw [HRD.out, HT.out]; exact RcT.nil _⟩
set_option maxRecDepth 100000 in
set_option maxHeartbeats 4000000 in
theorem m9read_131 (f g : AD) (hf : adOk f) (hg : adOk g) (s : List UInt8) (hs : s.length ≤ 100000) (hv : (f.1 && g.1) = true) (h8 : 8 ≤ s.length) (hsum : foldN (wsum (psM f g s.length ++ s)) = 65535) (hc : by8 s 0 = 131) (w : World) : Calls Tryz.prog 11 #[.string (Str s), .agg (adC f).toArray, .agg (adC g).toArray] w fun x w' => ReadV w f g s x w' := by
  have hsz := Str_size s
  have HB0 := Lib.hid (BX9.start w f g)
  have HROW := Lib.hid (fun W (h : BX9 w W f g) => h.rows hf hg)
  have hb0 := bldr_tk0
  have hfz : fok (tkC zeroT (.slice none 0 0) (.slice none 0 0)).toArray 26 = true := fok_tk zeroA_ok rfl rfl
  have hlit := adsLit2_run f g hf hg
  have HL2 := Lib.hid (fun W => Ads.lit2 W f g hf hg)
  have HBL := Lib.hid (fun W : World => balloc W (.cells (adC f ++ adC g).toArray 24))
  have HSX : Hid (∀ W, Calls Tryz.prog 19 #[.slice (some ⟨W.heap.size, 0, none⟩) 2 2] (W.alloc (.cells (adC f ++ adC g).toArray 24)) fun x w' => x = .returned (.bool true) ∧ Below W.heap.size W w') := Lib.hid fun W => by
    refine (six9_any _ [f, g] _ (HL2.out W)).mono ?_
    rintro x w' ⟨rfl, hb⟩
    exact ⟨ret_bool8 (by simp [isV6]; exact Bool.and_eq_true_iff.1 hv), bstep (HBL.out W) hb⟩
  have t8 : decide ((s.length : Int) < 8) = false := decide_eq_false (by omega)
  have t8n : decide (s.length < 8) = false := decide_eq_false (by omega)
  obtain ⟨P, hP⟩ : ∃ P, P = psM f g s.length := ⟨_, rfl⟩
  have hPl := psM_length hf hg s.length
  have HPS : Hid (∀ W, Calls Tryz.prog 24 #[.agg (adC f).toArray, .agg (adC g).toArray, .int .i64 (s.length : Nat)] W fun x w' => x = .returned (.string (Str P)) ∧ Below W.heap.size W w') := Lib.hid fun W => by
    rw [hP]; exact pseudo9_any f g hf hg (Bool.and_eq_true_iff.1 hv).1 s.length (by omega) W
  have hRD : rd9 f g s = readM P s := by unfold rd9; rw [if_pos hv, ← hP]
  rw [← hP] at hPl hsum
  have hl : ([P, s] : List (List UInt8)).flatten.length ≤ 1048576 := by simp; omega
  have HSG : Hid (∀ W : World, Calls Tryz.prog 43 #[.slice (some ⟨W.heap.size, 0, none⟩) 2 2] (W.alloc (.cells #[.string (Str P), .string (Str s)] 9)) fun e w' => e = .returned (.bool true) ∧ Below W.heap.size W w') := Lib.hid fun W => by
    refine (good_own [P, s] hl (by simp) 0 _ _ (own_lit0 W #[.string (Str P), .string (Str s)] _ 2 _ rfl (by omega) rfl)).mono ?_
    rintro e w1 ⟨rfl, d, rfl⟩
    exact ⟨by simp [hsum], bdrewN ((Below.refl _ _).alloc (Nat.le_refl _) _) _⟩
  have hex : (Str s).extract 4 s.length = Str (s.drop 4) := by rw [Str_extract, List.take_of_length_le (by simp)]
  have HNW := Lib.hid (fun W => new_any (Str (s.drop 4)) W)
  have hlen : (4 : Int) ≤ (s.length : Int) := by omega
  have hlen0 : (0 : Int) < (s.length : Int) := by omega
  have hlen0n : 0 < s.length := by omega
  have hix : ∀ h, ((Str s)[0]'h).toNat = by8 s 0 := fun h => by
    cases s with
    | nil => simp at h8
    | cons a r => rfl
  have HK := Lib.hid (fun b0 W h => m9part_131 P s hs h8 hsum hc b0 W h)
  have HCX := hc
  have HX := hc
  have HZT := Lib.hid (readM_zero P s)
  obtain ⟨c, hcc⟩ : ∃ c, c = by8 s 0 := ⟨_, rfl⟩
  rw [← hcc] at hix HCX
  have t130 : ((c : Int) == 130) = false := by rw [HCX]; rfl
  have t131 : ((c : Int) == 131) = true := by rw [HCX]; rfl
  have HRD := Lib.hid hRD
  clear hv h8 hP hPl hsum hRD hl hs hcc HCX HX
  go_enter Tryz.func11, Tryz.ntmps11
  go_upto_region 1 with (fail)
  generalize ((w.alloc (.cells (adC f).toArray 24)).alloc (.cells (adC g).toArray 24)).alloc (.cells #[.bool false, .int .i64 0, .int .i64 0, .int .i64 0, .bool false, .int .u8 0, .int .u8 0, .int .u8 0, .int .u8 0, .int .u8 0, .int .u8 0, .int .u8 0, .int .u8 0, .int .u8 0, .int .u8 0, .int .u8 0, .int .u8 0, .int .u8 0, .int .u8 0, .int .u8 0, .int .u8 0, .bool false, .int .i64 0, .int .i64 0, .slice none 0 0, .slice none 0 0] 28) = W at HB0 ⊢
  obtain ⟨r1, r2, hfr⟩ := HROW.out _ HB0.out
  go_upto_region 7 with (first | (go_at_call 19; (with_reducible refine (HSX.out _).mono ?_); rintro x w1 ⟨rfl, hb⟩; have HB1 := Lib.hid (HB0.out.below hb); clear hb r1 r2 hfr; obtain ⟨r1, r2, hfr⟩ := HROW.out _ HB1.out) | (go_at_call 24; (with_reducible refine (HPS.out _).mono ?_); rintro x w2 ⟨rfl, hb⟩; have HB2 := Lib.hid (HB1.out.below hb); clear hb r1 r2 hfr; obtain ⟨r1, r2, hfr⟩ := HROW.out _ HB2.out) | (go_at_call 43; (with_reducible refine (HSG.out _).mono ?_); rintro x w3 ⟨rfl, hb⟩; have HB3 := Lib.hid (HB2.out.below hb); clear hb r1 r2 hfr; obtain ⟨r1, r2, hfr⟩ := HROW.out _ HB3.out))
  go_upto_region 8 with (go_at_call 44; (with_reducible refine (HNW.out _).mono ?_); rintro x w4 ⟨rfl, hw⟩; subst hw)
  have H5 := Lib.hid (HB3.out.ra.reader (s.drop 4))
  generalize w3.alloc (.cells #[.string (Str (s.drop 4)), .int .i64 0, .bool false] 102) = W5 at H5 ⊢
  generalize w3.heap.size = b0 at H5 ⊢
  have hfm := hfm26 W5
  have H6 := Lib.hid (RM9.made H5.out.1 H5.out.2.1 H5.out.2.2.1)
  go_upto_region 9 with (fail)
  generalize aggW (W5.alloc (.cells #[.bool false, .int .i64 0, .int .i64 0, .int .i64 0, .bool false, .int .u8 0, .int .u8 0, .int .u8 0, .int .u8 0, .int .u8 0, .int .u8 0, .int .u8 0, .int .u8 0, .int .u8 0, .int .u8 0, .int .u8 0, .int .u8 0, .int .u8 0, .int .u8 0, .int .u8 0, .int .u8 0, .bool false, .int .i64 0, .int .i64 0, .slice none 0 0, .slice none 0 0] 28)) W5.heap.size _ = W6 at H6 ⊢
  generalize W5.heap.size = m at H6 ⊢
  clear hfm HB0 HB1 HB2 HB3 H5 r1 r2 hfr
  obtain ⟨k1, k2⟩ := H6.out.c
  go_upto_region 18 with (go_at_call 46; (with_reducible refine (HK.out _ _ H6.out.rd).mono ?_); rintro x wq ⟨us, ur, e, t, rfl, hs9, hr9, hg9, ho9, he9, h09⟩; have HPT := Lib.hid (H6.out.put hg9 hs9 hr9 ho9); have HEE := Lib.hid (And.intro he9 h09); clear hs9 hr9 hg9 ho9 he9 h09; obtain ⟨g1, g2, _⟩ := HPT.out)
  have H9 := Lib.hid HPT.out.2.2
  generalize aggW wq m _ = w9 at H9 ⊢
  clear k1 k2 g1 g2
  obtain ⟨k1, k2, k3⟩ := H9.out.c
  by_cases he : e = 0
  · have te : (e != 0) = false := by simp [he]
    have HT := Lib.hid (HEE.out.2 he)
    have HE := Lib.hid (show (readM P s).2 = 0 by rw [← HEE.out.1]; exact he)
    clear he
    repeat (first | go_values | go_skip | go_guarded | go_step | go_upon | go_in)
    obtain ⟨q1, q2, q3, q4, q5⟩ := H9.out.done
    exact bodyPost_ret (results_cell2 Tryz.results11 rfl (ld_some q1 (ldr_tk _ _ _))) rfl ⟨us, ur, by rw [HRD.out, ← HT.out, HE.out]; rfl, q2, by rw [HRD.out, ← HT.out]; exact q5, by rw [HRD.out, ← HT.out]; exact q3, by rw [HRD.out, ← HT.out]; exact q4⟩
  · have te : (e != 0) = true := by simpa using he
    have HT := Lib.hid (HZT.out (by rw [← HEE.out.1]; exact he))
    clear he
    repeat (first | go_values | go_skip | go_guarded | go_step | go_upon | go_in)
    obtain ⟨q1, q2⟩ := H9.out.ra.zero
    exact bodyPost_ret (results_cell2 Tryz.results11 rfl (ld_some q1 (ldr_tk _ _ _))) rfl ⟨_, _, by rw [HRD.out, HT.out, ← HEE.out.1]; rfl, q2, by rw [HRD.out, HT.out]; exact zeroA_ok, by rw [HRD.out, HT.out]; exact AdsT.nil _, by rw [HRD.out, HT.out]; exact RcT.nil _⟩
set_option maxRecDepth 100000 in
set_option maxHeartbeats 4000000 in
theorem m9read_132 (f g : AD) (hf : adOk f) (hg : adOk g) (s : List UInt8) (hs : s.length ≤ 100000) (hv : (f.1 && g.1) = true) (h8 : 8 ≤ s.length) (hsum : foldN (wsum (psM f g s.length ++ s)) = 65535) (hc : by8 s 0 = 132) (w : World) : Calls Tryz.prog 11 #[.string (Str s), .agg (adC f).toArray, .agg (adC g).toArray] w fun x w' => ReadV w f g s x w' := by
  have hsz := Str_size s
  have HB0 := Lib.hid (BX9.start w f g)
  have HROW := Lib.hid (fun W (h : BX9 w W f g) => h.rows hf hg)
  have hb0 := bldr_tk0
  have hfz : fok (tkC zeroT (.slice none 0 0) (.slice none 0 0)).toArray 26 = true := fok_tk zeroA_ok rfl rfl
  have hlit := adsLit2_run f g hf hg
  have HL2 := Lib.hid (fun W => Ads.lit2 W f g hf hg)
  have HBL := Lib.hid (fun W : World => balloc W (.cells (adC f ++ adC g).toArray 24))
  have HSX : Hid (∀ W, Calls Tryz.prog 19 #[.slice (some ⟨W.heap.size, 0, none⟩) 2 2] (W.alloc (.cells (adC f ++ adC g).toArray 24)) fun x w' => x = .returned (.bool true) ∧ Below W.heap.size W w') := Lib.hid fun W => by
    refine (six9_any _ [f, g] _ (HL2.out W)).mono ?_
    rintro x w' ⟨rfl, hb⟩
    exact ⟨ret_bool8 (by simp [isV6]; exact Bool.and_eq_true_iff.1 hv), bstep (HBL.out W) hb⟩
  have t8 : decide ((s.length : Int) < 8) = false := decide_eq_false (by omega)
  have t8n : decide (s.length < 8) = false := decide_eq_false (by omega)
  obtain ⟨P, hP⟩ : ∃ P, P = psM f g s.length := ⟨_, rfl⟩
  have hPl := psM_length hf hg s.length
  have HPS : Hid (∀ W, Calls Tryz.prog 24 #[.agg (adC f).toArray, .agg (adC g).toArray, .int .i64 (s.length : Nat)] W fun x w' => x = .returned (.string (Str P)) ∧ Below W.heap.size W w') := Lib.hid fun W => by
    rw [hP]; exact pseudo9_any f g hf hg (Bool.and_eq_true_iff.1 hv).1 s.length (by omega) W
  have hRD : rd9 f g s = readM P s := by unfold rd9; rw [if_pos hv, ← hP]
  rw [← hP] at hPl hsum
  have hl : ([P, s] : List (List UInt8)).flatten.length ≤ 1048576 := by simp; omega
  have HSG : Hid (∀ W : World, Calls Tryz.prog 43 #[.slice (some ⟨W.heap.size, 0, none⟩) 2 2] (W.alloc (.cells #[.string (Str P), .string (Str s)] 9)) fun e w' => e = .returned (.bool true) ∧ Below W.heap.size W w') := Lib.hid fun W => by
    refine (good_own [P, s] hl (by simp) 0 _ _ (own_lit0 W #[.string (Str P), .string (Str s)] _ 2 _ rfl (by omega) rfl)).mono ?_
    rintro e w1 ⟨rfl, d, rfl⟩
    exact ⟨by simp [hsum], bdrewN ((Below.refl _ _).alloc (Nat.le_refl _) _) _⟩
  have hex : (Str s).extract 4 s.length = Str (s.drop 4) := by rw [Str_extract, List.take_of_length_le (by simp)]
  have HNW := Lib.hid (fun W => new_any (Str (s.drop 4)) W)
  have hlen : (4 : Int) ≤ (s.length : Int) := by omega
  have hlen0 : (0 : Int) < (s.length : Int) := by omega
  have hlen0n : 0 < s.length := by omega
  have hix : ∀ h, ((Str s)[0]'h).toNat = by8 s 0 := fun h => by
    cases s with
    | nil => simp at h8
    | cons a r => rfl
  have HK := Lib.hid (fun b0 W h => m9part_132 P s hs h8 hsum hc b0 W h)
  have HCX := hc
  have HX := hc
  have HZT := Lib.hid (readM_zero P s)
  obtain ⟨c, hcc⟩ : ∃ c, c = by8 s 0 := ⟨_, rfl⟩
  rw [← hcc] at hix HCX
  have t130 : ((c : Int) == 130) = false := by rw [HCX]; rfl
  have t131 : ((c : Int) == 131) = false := by rw [HCX]; rfl
  have t132 : ((c : Int) == 132) = true := by rw [HCX]; rfl
  have HRD := Lib.hid hRD
  clear hv h8 hP hPl hsum hRD hl hs hcc HCX HX
  go_enter Tryz.func11, Tryz.ntmps11
  go_upto_region 1 with (fail)
  generalize ((w.alloc (.cells (adC f).toArray 24)).alloc (.cells (adC g).toArray 24)).alloc (.cells #[.bool false, .int .i64 0, .int .i64 0, .int .i64 0, .bool false, .int .u8 0, .int .u8 0, .int .u8 0, .int .u8 0, .int .u8 0, .int .u8 0, .int .u8 0, .int .u8 0, .int .u8 0, .int .u8 0, .int .u8 0, .int .u8 0, .int .u8 0, .int .u8 0, .int .u8 0, .int .u8 0, .bool false, .int .i64 0, .int .i64 0, .slice none 0 0, .slice none 0 0] 28) = W at HB0 ⊢
  obtain ⟨r1, r2, hfr⟩ := HROW.out _ HB0.out
  go_upto_region 7 with (first | (go_at_call 19; (with_reducible refine (HSX.out _).mono ?_); rintro x w1 ⟨rfl, hb⟩; have HB1 := Lib.hid (HB0.out.below hb); clear hb r1 r2 hfr; obtain ⟨r1, r2, hfr⟩ := HROW.out _ HB1.out) | (go_at_call 24; (with_reducible refine (HPS.out _).mono ?_); rintro x w2 ⟨rfl, hb⟩; have HB2 := Lib.hid (HB1.out.below hb); clear hb r1 r2 hfr; obtain ⟨r1, r2, hfr⟩ := HROW.out _ HB2.out) | (go_at_call 43; (with_reducible refine (HSG.out _).mono ?_); rintro x w3 ⟨rfl, hb⟩; have HB3 := Lib.hid (HB2.out.below hb); clear hb r1 r2 hfr; obtain ⟨r1, r2, hfr⟩ := HROW.out _ HB3.out))
  go_upto_region 8 with (go_at_call 44; (with_reducible refine (HNW.out _).mono ?_); rintro x w4 ⟨rfl, hw⟩; subst hw)
  have H5 := Lib.hid (HB3.out.ra.reader (s.drop 4))
  generalize w3.alloc (.cells #[.string (Str (s.drop 4)), .int .i64 0, .bool false] 102) = W5 at H5 ⊢
  generalize w3.heap.size = b0 at H5 ⊢
  have hfm := hfm26 W5
  have H6 := Lib.hid (RM9.made H5.out.1 H5.out.2.1 H5.out.2.2.1)
  go_upto_region 9 with (fail)
  generalize aggW (W5.alloc (.cells #[.bool false, .int .i64 0, .int .i64 0, .int .i64 0, .bool false, .int .u8 0, .int .u8 0, .int .u8 0, .int .u8 0, .int .u8 0, .int .u8 0, .int .u8 0, .int .u8 0, .int .u8 0, .int .u8 0, .int .u8 0, .int .u8 0, .int .u8 0, .int .u8 0, .int .u8 0, .int .u8 0, .bool false, .int .i64 0, .int .i64 0, .slice none 0 0, .slice none 0 0] 28)) W5.heap.size _ = W6 at H6 ⊢
  generalize W5.heap.size = m at H6 ⊢
  clear hfm HB0 HB1 HB2 HB3 H5 r1 r2 hfr
  obtain ⟨k1, k2⟩ := H6.out.c
  go_upto_region 18 with (go_at_call 46; (with_reducible refine (HK.out _ _ H6.out.rd).mono ?_); rintro x wq ⟨us, ur, e, t, rfl, hs9, hr9, hg9, ho9, he9, h09⟩; have HPT := Lib.hid (H6.out.put hg9 hs9 hr9 ho9); have HEE := Lib.hid (And.intro he9 h09); clear hs9 hr9 hg9 ho9 he9 h09; obtain ⟨g1, g2, _⟩ := HPT.out)
  have H9 := Lib.hid HPT.out.2.2
  generalize aggW wq m _ = w9 at H9 ⊢
  clear k1 k2 g1 g2
  obtain ⟨k1, k2, k3⟩ := H9.out.c
  by_cases he : e = 0
  · have te : (e != 0) = false := by simp [he]
    have HT := Lib.hid (HEE.out.2 he)
    have HE := Lib.hid (show (readM P s).2 = 0 by rw [← HEE.out.1]; exact he)
    clear he
    repeat (first | go_values | go_skip | go_guarded | go_step | go_upon | go_in)
    obtain ⟨q1, q2, q3, q4, q5⟩ := H9.out.done
    exact bodyPost_ret (results_cell2 Tryz.results11 rfl (ld_some q1 (ldr_tk _ _ _))) rfl ⟨us, ur, by rw [HRD.out, ← HT.out, HE.out]; rfl, q2, by rw [HRD.out, ← HT.out]; exact q5, by rw [HRD.out, ← HT.out]; exact q3, by rw [HRD.out, ← HT.out]; exact q4⟩
  · have te : (e != 0) = true := by simpa using he
    have HT := Lib.hid (HZT.out (by rw [← HEE.out.1]; exact he))
    clear he
    repeat (first | go_values | go_skip | go_guarded | go_step | go_upon | go_in)
    obtain ⟨q1, q2⟩ := H9.out.ra.zero
    exact bodyPost_ret (results_cell2 Tryz.results11 rfl (ld_some q1 (ldr_tk _ _ _))) rfl ⟨_, _, by rw [HRD.out, HT.out, ← HEE.out.1]; rfl, q2, by rw [HRD.out, HT.out]; exact zeroA_ok, by rw [HRD.out, HT.out]; exact AdsT.nil _, by rw [HRD.out, HT.out]; exact RcT.nil _⟩
set_option maxRecDepth 100000 in
set_option maxHeartbeats 4000000 in
theorem m9read_143 (f g : AD) (hf : adOk f) (hg : adOk g) (s : List UInt8) (hs : s.length ≤ 100000) (hv : (f.1 && g.1) = true) (h8 : 8 ≤ s.length) (hsum : foldN (wsum (psM f g s.length ++ s)) = 65535) (hc : by8 s 0 = 143) (w : World) : Calls Tryz.prog 11 #[.string (Str s), .agg (adC f).toArray, .agg (adC g).toArray] w fun x w' => ReadV w f g s x w' := by
  have hsz := Str_size s
  have HB0 := Lib.hid (BX9.start w f g)
  have HROW := Lib.hid (fun W (h : BX9 w W f g) => h.rows hf hg)
  have hb0 := bldr_tk0
  have hfz : fok (tkC zeroT (.slice none 0 0) (.slice none 0 0)).toArray 26 = true := fok_tk zeroA_ok rfl rfl
  have hlit := adsLit2_run f g hf hg
  have HL2 := Lib.hid (fun W => Ads.lit2 W f g hf hg)
  have HBL := Lib.hid (fun W : World => balloc W (.cells (adC f ++ adC g).toArray 24))
  have HSX : Hid (∀ W, Calls Tryz.prog 19 #[.slice (some ⟨W.heap.size, 0, none⟩) 2 2] (W.alloc (.cells (adC f ++ adC g).toArray 24)) fun x w' => x = .returned (.bool true) ∧ Below W.heap.size W w') := Lib.hid fun W => by
    refine (six9_any _ [f, g] _ (HL2.out W)).mono ?_
    rintro x w' ⟨rfl, hb⟩
    exact ⟨ret_bool8 (by simp [isV6]; exact Bool.and_eq_true_iff.1 hv), bstep (HBL.out W) hb⟩
  have t8 : decide ((s.length : Int) < 8) = false := decide_eq_false (by omega)
  have t8n : decide (s.length < 8) = false := decide_eq_false (by omega)
  obtain ⟨P, hP⟩ : ∃ P, P = psM f g s.length := ⟨_, rfl⟩
  have hPl := psM_length hf hg s.length
  have HPS : Hid (∀ W, Calls Tryz.prog 24 #[.agg (adC f).toArray, .agg (adC g).toArray, .int .i64 (s.length : Nat)] W fun x w' => x = .returned (.string (Str P)) ∧ Below W.heap.size W w') := Lib.hid fun W => by
    rw [hP]; exact pseudo9_any f g hf hg (Bool.and_eq_true_iff.1 hv).1 s.length (by omega) W
  have hRD : rd9 f g s = readM P s := by unfold rd9; rw [if_pos hv, ← hP]
  rw [← hP] at hPl hsum
  have hl : ([P, s] : List (List UInt8)).flatten.length ≤ 1048576 := by simp; omega
  have HSG : Hid (∀ W : World, Calls Tryz.prog 43 #[.slice (some ⟨W.heap.size, 0, none⟩) 2 2] (W.alloc (.cells #[.string (Str P), .string (Str s)] 9)) fun e w' => e = .returned (.bool true) ∧ Below W.heap.size W w') := Lib.hid fun W => by
    refine (good_own [P, s] hl (by simp) 0 _ _ (own_lit0 W #[.string (Str P), .string (Str s)] _ 2 _ rfl (by omega) rfl)).mono ?_
    rintro e w1 ⟨rfl, d, rfl⟩
    exact ⟨by simp [hsum], bdrewN ((Below.refl _ _).alloc (Nat.le_refl _) _) _⟩
  have hex : (Str s).extract 4 s.length = Str (s.drop 4) := by rw [Str_extract, List.take_of_length_le (by simp)]
  have HNW := Lib.hid (fun W => new_any (Str (s.drop 4)) W)
  have hlen : (4 : Int) ≤ (s.length : Int) := by omega
  have hlen0 : (0 : Int) < (s.length : Int) := by omega
  have hlen0n : 0 < s.length := by omega
  have hix : ∀ h, ((Str s)[0]'h).toNat = by8 s 0 := fun h => by
    cases s with
    | nil => simp at h8
    | cons a r => rfl
  have HK := Lib.hid (fun b0 W h => m9part_143 P s hs h8 hsum hc b0 W h)
  have HCX := hc
  have HX := hc
  have HZT := Lib.hid (readM_zero P s)
  obtain ⟨c, hcc⟩ : ∃ c, c = by8 s 0 := ⟨_, rfl⟩
  rw [← hcc] at hix HCX
  have t130 : ((c : Int) == 130) = false := by rw [HCX]; rfl
  have t131 : ((c : Int) == 131) = false := by rw [HCX]; rfl
  have t132 : ((c : Int) == 132) = false := by rw [HCX]; rfl
  have t143 : ((c : Int) == 143) = true := by rw [HCX]; rfl
  have HRD := Lib.hid hRD
  clear hv h8 hP hPl hsum hRD hl hs hcc HCX HX
  go_enter Tryz.func11, Tryz.ntmps11
  go_upto_region 1 with (fail)
  generalize ((w.alloc (.cells (adC f).toArray 24)).alloc (.cells (adC g).toArray 24)).alloc (.cells #[.bool false, .int .i64 0, .int .i64 0, .int .i64 0, .bool false, .int .u8 0, .int .u8 0, .int .u8 0, .int .u8 0, .int .u8 0, .int .u8 0, .int .u8 0, .int .u8 0, .int .u8 0, .int .u8 0, .int .u8 0, .int .u8 0, .int .u8 0, .int .u8 0, .int .u8 0, .int .u8 0, .bool false, .int .i64 0, .int .i64 0, .slice none 0 0, .slice none 0 0] 28) = W at HB0 ⊢
  obtain ⟨r1, r2, hfr⟩ := HROW.out _ HB0.out
  go_upto_region 7 with (first | (go_at_call 19; (with_reducible refine (HSX.out _).mono ?_); rintro x w1 ⟨rfl, hb⟩; have HB1 := Lib.hid (HB0.out.below hb); clear hb r1 r2 hfr; obtain ⟨r1, r2, hfr⟩ := HROW.out _ HB1.out) | (go_at_call 24; (with_reducible refine (HPS.out _).mono ?_); rintro x w2 ⟨rfl, hb⟩; have HB2 := Lib.hid (HB1.out.below hb); clear hb r1 r2 hfr; obtain ⟨r1, r2, hfr⟩ := HROW.out _ HB2.out) | (go_at_call 43; (with_reducible refine (HSG.out _).mono ?_); rintro x w3 ⟨rfl, hb⟩; have HB3 := Lib.hid (HB2.out.below hb); clear hb r1 r2 hfr; obtain ⟨r1, r2, hfr⟩ := HROW.out _ HB3.out))
  go_upto_region 8 with (go_at_call 44; (with_reducible refine (HNW.out _).mono ?_); rintro x w4 ⟨rfl, hw⟩; subst hw)
  have H5 := Lib.hid (HB3.out.ra.reader (s.drop 4))
  generalize w3.alloc (.cells #[.string (Str (s.drop 4)), .int .i64 0, .bool false] 102) = W5 at H5 ⊢
  generalize w3.heap.size = b0 at H5 ⊢
  have hfm := hfm26 W5
  have H6 := Lib.hid (RM9.made H5.out.1 H5.out.2.1 H5.out.2.2.1)
  go_upto_region 9 with (fail)
  generalize aggW (W5.alloc (.cells #[.bool false, .int .i64 0, .int .i64 0, .int .i64 0, .bool false, .int .u8 0, .int .u8 0, .int .u8 0, .int .u8 0, .int .u8 0, .int .u8 0, .int .u8 0, .int .u8 0, .int .u8 0, .int .u8 0, .int .u8 0, .int .u8 0, .int .u8 0, .int .u8 0, .int .u8 0, .int .u8 0, .bool false, .int .i64 0, .int .i64 0, .slice none 0 0, .slice none 0 0] 28)) W5.heap.size _ = W6 at H6 ⊢
  generalize W5.heap.size = m at H6 ⊢
  clear hfm HB0 HB1 HB2 HB3 H5 r1 r2 hfr
  obtain ⟨k1, k2⟩ := H6.out.c
  go_upto_region 18 with (go_at_call 47; (with_reducible refine (HK.out _ _ H6.out.rd).mono ?_); rintro x wq ⟨us, ur, e, t, rfl, hs9, hr9, hg9, ho9, he9, h09⟩; have HPT := Lib.hid (H6.out.put hg9 hs9 hr9 ho9); have HEE := Lib.hid (And.intro he9 h09); clear hs9 hr9 hg9 ho9 he9 h09; obtain ⟨g1, g2, _⟩ := HPT.out)
  have H9 := Lib.hid HPT.out.2.2
  generalize aggW wq m _ = w9 at H9 ⊢
  clear k1 k2 g1 g2
  obtain ⟨k1, k2, k3⟩ := H9.out.c
  by_cases he : e = 0
  · have te : (e != 0) = false := by simp [he]
    have HT := Lib.hid (HEE.out.2 he)
    have HE := Lib.hid (show (readM P s).2 = 0 by rw [← HEE.out.1]; exact he)
    clear he
    repeat (first | go_values | go_skip | go_guarded | go_step | go_upon | go_in)
    obtain ⟨q1, q2, q3, q4, q5⟩ := H9.out.done
    exact bodyPost_ret (results_cell2 Tryz.results11 rfl (ld_some q1 (ldr_tk _ _ _))) rfl ⟨us, ur, by rw [HRD.out, ← HT.out, HE.out]; rfl, q2, by rw [HRD.out, ← HT.out]; exact q5, by rw [HRD.out, ← HT.out]; exact q3, by rw [HRD.out, ← HT.out]; exact q4⟩
  · have te : (e != 0) = true := by simpa using he
    have HT := Lib.hid (HZT.out (by rw [← HEE.out.1]; exact he))
    clear he
    repeat (first | go_values | go_skip | go_guarded | go_step | go_upon | go_in)
    obtain ⟨q1, q2⟩ := H9.out.ra.zero
    exact bodyPost_ret (results_cell2 Tryz.results11 rfl (ld_some q1 (ldr_tk _ _ _))) rfl ⟨_, _, by rw [HRD.out, HT.out, ← HEE.out.1]; rfl, q2, by rw [HRD.out, HT.out]; exact zeroA_ok, by rw [HRD.out, HT.out]; exact AdsT.nil _, by rw [HRD.out, HT.out]; exact RcT.nil _⟩
set_option maxRecDepth 100000 in
set_option maxHeartbeats 4000000 in
theorem m9read_no (f g : AD) (hf : adOk f) (hg : adOk g) (s : List UInt8) (hs : s.length ≤ 100000) (hv : (f.1 && g.1) = true) (h8 : 8 ≤ s.length) (hsum : foldN (wsum (psM f g s.length ++ s)) = 65535) (hc : ¬ (130 ≤ by8 s 0 ∧ by8 s 0 ≤ 132) ∧ by8 s 0 ≠ 143) (w : World) : Calls Tryz.prog 11 #[.string (Str s), .agg (adC f).toArray, .agg (adC g).toArray] w fun x w' => ReadV w f g s x w' := by
  have hsz := Str_size s
  have HB0 := Lib.hid (BX9.start w f g)
  have HROW := Lib.hid (fun W (h : BX9 w W f g) => h.rows hf hg)
  have hb0 := bldr_tk0
  have hfz : fok (tkC zeroT (.slice none 0 0) (.slice none 0 0)).toArray 26 = true := fok_tk zeroA_ok rfl rfl
  have hlit := adsLit2_run f g hf hg
  have HL2 := Lib.hid (fun W => Ads.lit2 W f g hf hg)
  have HBL := Lib.hid (fun W : World => balloc W (.cells (adC f ++ adC g).toArray 24))
  have HSX : Hid (∀ W, Calls Tryz.prog 19 #[.slice (some ⟨W.heap.size, 0, none⟩) 2 2] (W.alloc (.cells (adC f ++ adC g).toArray 24)) fun x w' => x = .returned (.bool true) ∧ Below W.heap.size W w') := Lib.hid fun W => by
    refine (six9_any _ [f, g] _ (HL2.out W)).mono ?_
    rintro x w' ⟨rfl, hb⟩
    exact ⟨ret_bool8 (by simp [isV6]; exact Bool.and_eq_true_iff.1 hv), bstep (HBL.out W) hb⟩
  have t8 : decide ((s.length : Int) < 8) = false := decide_eq_false (by omega)
  have t8n : decide (s.length < 8) = false := decide_eq_false (by omega)
  obtain ⟨P, hP⟩ : ∃ P, P = psM f g s.length := ⟨_, rfl⟩
  have hPl := psM_length hf hg s.length
  have HPS : Hid (∀ W, Calls Tryz.prog 24 #[.agg (adC f).toArray, .agg (adC g).toArray, .int .i64 (s.length : Nat)] W fun x w' => x = .returned (.string (Str P)) ∧ Below W.heap.size W w') := Lib.hid fun W => by
    rw [hP]; exact pseudo9_any f g hf hg (Bool.and_eq_true_iff.1 hv).1 s.length (by omega) W
  have hRD : rd9 f g s = readM P s := by unfold rd9; rw [if_pos hv, ← hP]
  rw [← hP] at hPl hsum
  have hl : ([P, s] : List (List UInt8)).flatten.length ≤ 1048576 := by simp; omega
  have HSG : Hid (∀ W : World, Calls Tryz.prog 43 #[.slice (some ⟨W.heap.size, 0, none⟩) 2 2] (W.alloc (.cells #[.string (Str P), .string (Str s)] 9)) fun e w' => e = .returned (.bool true) ∧ Below W.heap.size W w') := Lib.hid fun W => by
    refine (good_own [P, s] hl (by simp) 0 _ _ (own_lit0 W #[.string (Str P), .string (Str s)] _ 2 _ rfl (by omega) rfl)).mono ?_
    rintro e w1 ⟨rfl, d, rfl⟩
    exact ⟨by simp [hsum], bdrewN ((Below.refl _ _).alloc (Nat.le_refl _) _) _⟩
  have hex : (Str s).extract 4 s.length = Str (s.drop 4) := by rw [Str_extract, List.take_of_length_le (by simp)]
  have HNW := Lib.hid (fun W => new_any (Str (s.drop 4)) W)
  have hlen : (4 : Int) ≤ (s.length : Int) := by omega
  have hlen0 : (0 : Int) < (s.length : Int) := by omega
  have hlen0n : 0 < s.length := by omega
  have hix : ∀ h, ((Str s)[0]'h).toNat = by8 s 0 := fun h => by
    cases s with
    | nil => simp at h8
    | cons a r => rfl
  have hT : Hid (rd9 f g s = (zeroT, 5)) := Lib.hid (by
    rw [hRD]; unfold readM
    rw [if_neg (by omega), if_neg (by rw [hsum]; simp), if_neg hc.1, if_neg hc.2])
  have HCX := hc
  have HX := hc
  have HZT := Lib.hid (readM_zero P s)
  obtain ⟨c, hcc⟩ : ∃ c, c = by8 s 0 := ⟨_, rfl⟩
  rw [← hcc] at hix HCX
  have t130 : ((c : Int) == 130) = false := by simp; omega
  have t131 : ((c : Int) == 131) = false := by simp; omega
  have t132 : ((c : Int) == 132) = false := by simp; omega
  have t143 : ((c : Int) == 143) = false := by simp; omega
  have HRD := Lib.hid hRD
  clear hv h8 hP hPl hsum hRD hl hs hcc HCX HX
  go_enter Tryz.func11, Tryz.ntmps11
  go_upto_region 1 with (fail)
  generalize ((w.alloc (.cells (adC f).toArray 24)).alloc (.cells (adC g).toArray 24)).alloc (.cells #[.bool false, .int .i64 0, .int .i64 0, .int .i64 0, .bool false, .int .u8 0, .int .u8 0, .int .u8 0, .int .u8 0, .int .u8 0, .int .u8 0, .int .u8 0, .int .u8 0, .int .u8 0, .int .u8 0, .int .u8 0, .int .u8 0, .int .u8 0, .int .u8 0, .int .u8 0, .int .u8 0, .bool false, .int .i64 0, .int .i64 0, .slice none 0 0, .slice none 0 0] 28) = W at HB0 ⊢
  obtain ⟨r1, r2, hfr⟩ := HROW.out _ HB0.out
  go_upto_region 7 with (first | (go_at_call 19; (with_reducible refine (HSX.out _).mono ?_); rintro x w1 ⟨rfl, hb⟩; have HB1 := Lib.hid (HB0.out.below hb); clear hb r1 r2 hfr; obtain ⟨r1, r2, hfr⟩ := HROW.out _ HB1.out) | (go_at_call 24; (with_reducible refine (HPS.out _).mono ?_); rintro x w2 ⟨rfl, hb⟩; have HB2 := Lib.hid (HB1.out.below hb); clear hb r1 r2 hfr; obtain ⟨r1, r2, hfr⟩ := HROW.out _ HB2.out) | (go_at_call 43; (with_reducible refine (HSG.out _).mono ?_); rintro x w3 ⟨rfl, hb⟩; have HB3 := Lib.hid (HB2.out.below hb); clear hb r1 r2 hfr; obtain ⟨r1, r2, hfr⟩ := HROW.out _ HB3.out))
  go_upto_region 8 with (go_at_call 44; (with_reducible refine (HNW.out _).mono ?_); rintro x w4 ⟨rfl, hw⟩; subst hw)
  have H5 := Lib.hid (HB3.out.ra.reader (s.drop 4))
  generalize w3.alloc (.cells #[.string (Str (s.drop 4)), .int .i64 0, .bool false] 102) = W5 at H5 ⊢
  generalize w3.heap.size = b0 at H5 ⊢
  have hfm := hfm26 W5
  have H6 := Lib.hid (RM9.made H5.out.1 H5.out.2.1 H5.out.2.2.1)
  go_upto_region 9 with (fail)
  generalize aggW (W5.alloc (.cells #[.bool false, .int .i64 0, .int .i64 0, .int .i64 0, .bool false, .int .u8 0, .int .u8 0, .int .u8 0, .int .u8 0, .int .u8 0, .int .u8 0, .int .u8 0, .int .u8 0, .int .u8 0, .int .u8 0, .int .u8 0, .int .u8 0, .int .u8 0, .int .u8 0, .int .u8 0, .int .u8 0, .bool false, .int .i64 0, .int .i64 0, .slice none 0 0, .slice none 0 0] 28)) W5.heap.size _ = W6 at H6 ⊢
  generalize W5.heap.size = m at H6 ⊢
  clear hfm HB0 HB1 HB2 HB3 H5 r1 r2 hfr
  obtain ⟨k1, k2⟩ := H6.out.c
  go_upto_region 18 with (fail)
  have te : ((5 : Int) != 0) = true := rfl
  repeat (first | go_values | go_skip | go_guarded | go_step | go_upon | go_in)
  obtain ⟨q1, q2⟩ := H6.out.ra.zero
  exact bodyPost_ret (results_cell2 Tryz.results11 rfl (ld_some q1 (ldr_tk _ _ _))) rfl ⟨_, _, by rw [hT.out]; rfl, q2, by rw [hT.out]; exact zeroA_ok, by rw [hT.out]; exact AdsT.nil _, by rw [hT.out]; exact RcT.nil _⟩
/-- Read of any bytes between any addresses. -/
theorem read9_any (f g : AD) (hf : adOk f) (hg : adOk g) (s : List UInt8) (hs : s.length ≤ 100000) (w : World) : Calls Tryz.prog 11 #[.string (Str s), .agg (adC f).toArray, .agg (adC g).toArray] w fun x w' => ReadV w f g s x w' := by
  by_cases hv : (f.1 && g.1) = true
  · by_cases h8 : s.length < 8
    · exact m9read_end f g hf hg s hs hv h8 w
    by_cases hsum : foldN (wsum (psM f g s.length ++ s)) = 65535
    · by_cases c1 : by8 s 0 = 130
      · exact m9read_130 f g hf hg s hs hv (by omega) hsum c1 w
      by_cases c2 : by8 s 0 = 131
      · exact m9read_131 f g hf hg s hs hv (by omega) hsum c2 w
      by_cases c3 : by8 s 0 = 132
      · exact m9read_132 f g hf hg s hs hv (by omega) hsum c3 w
      by_cases c4 : by8 s 0 = 143
      · exact m9read_143 f g hf hg s hs hv (by omega) hsum c4 w
      exact m9read_no f g hf hg s hs hv (by omega) hsum ⟨by omega, c4⟩ w
    · exact m9read_sum f g hf hg s hs hv (by omega) hsum w
  · exact m9read_v4 f g hf hg s hs (by simpa using hv) w
end Go.Proofs.YtgpccgcppbdlpaaGreat
