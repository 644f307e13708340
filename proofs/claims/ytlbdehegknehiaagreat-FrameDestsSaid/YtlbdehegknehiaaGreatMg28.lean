/-
  Texts joined: MgH, FrB.
-/
import Derived.Test.YtlbdehegknehiaaGreatMg00
import Derived.Test.YtlbdehegknehiaaGreatMg27
import Derived.Test.YtlbdehegknehiaaGreatMg16
import Derived.Test.YtlbdehegknehiaaGreatMg20
import Derived.Test.YtlbdehegknehiaaGreatMg21
/- A part of the proof. -/
namespace Go.Proofs.YtlbdehegknehiaaGreat
set_option maxRecDepth 100000
set_option maxHeartbeats 1000000
open Go.RowKit
set_option linter.unusedVariables false
set_option linter.unusedSimpArgs false
attribute [local go_sem ↓] ld_addr st_addr bld_addr ld_tk st_tk bld_tk adsLit2_eq
attribute [local go_sem] ldr_addr str_addr ldr_tk str_tk row?_drew_eq
theorem is9_nil (w : World) : Calls Tryz.prog 92 #[.string (Str [])] w fun x w' => x = .returned (.bool false) ∧ w = w' := by
  have hE : (Str []).toList.isEmpty = true := by rw [ByteArray.toList_eq]; rfl
  go_enter Tryz.func92, Tryz.ntmps92
  go_wp2
  go_ret
  exact ⟨rfl, rfl⟩
theorem is9_one (s : List UInt8) (h0 : 0 < s.length) (c : Nat) (hc : by8 s 0 = c) (R t0 t1 t2 t3 : Bool) (h1 : ((c : Int) == 130) = t0) (h2 : ((c : Int) == 131) = t1) (h3 : ((c : Int) == 132) = t2) (h4 : ((c : Int) == 143) = t3) (hR : R = (t0 || t1 || t2 || t3)) (w : World) : Calls Tryz.prog 92 #[.string (Str s)] w fun x w' => x = .returned (.bool R) ∧ w = w' := by
  have hsz := Str_size s
  have hE : (Str s).toList.isEmpty = false := by
    rw [ByteArray.toList_eq]
    cases s with
    | nil => simp at h0
    | cons a r => rfl
  have hlen0 : (0 : Int) < (s.length : Int) := by omega
  have hix : ∀ h, ((Str s)[0]'h).toNat = c := fun h => by
    cases s with
    | nil => simp at h0
    | cons a r => rw [← hc]; rfl
  clear hc
  subst hR
  cases t0 with
  | true =>
    go_enter Tryz.func92, Tryz.ntmps92
    go_wp2
    go_ret
    exact ⟨rfl, rfl⟩
  | false =>
    cases t1 with
    | true =>
      go_enter Tryz.func92, Tryz.ntmps92
      go_wp2
      go_ret
      exact ⟨rfl, rfl⟩
    | false =>
      cases t2 with
      | true =>
        go_enter Tryz.func92, Tryz.ntmps92
        go_wp2
        go_ret
        exact ⟨rfl, rfl⟩
      | false =>
        cases t3 with
        | true =>
          go_enter Tryz.func92, Tryz.ntmps92
          go_wp2
          go_ret
          exact ⟨rfl, rfl⟩
        | false =>
          go_enter Tryz.func92, Tryz.ntmps92
          go_wp2
          go_ret
          exact ⟨rfl, rfl⟩
theorem is9_any (s : List UInt8) (hs : s.length ≤ 100000) (w : World) : Calls Tryz.prog 92 #[.string (Str s)] w fun x w' => x = .returned (.bool (isM s)) ∧ Below w.heap.size w w' := by
  by_cases h0 : 0 < s.length
  · refine (is9_one s h0 _ rfl (isM s) _ _ _ _ rfl rfl rfl rfl ?_ w).mono fun x w' h => ⟨h.1, by rw [← h.2]; exact Below.refl _ _⟩
    unfold isM
    rw [decide_eq_true h0, Bool.true_and, Bool.eq_iff_iff]
    simp
    omega
  · have hn : s = [] := by
      cases s with
      | nil => rfl
      | cons a r => simp at h0
    subst hn
    exact (is9_nil w).mono fun x w' h => ⟨h.1, by rw [← h.2]; exact Below.refl _ _⟩
def BX9 (w W : World) (f g : AD) : Prop := ObjAt W w.heap.size (adC f).toArray 24 ∧ ObjAt W (w.heap.size + 1) (adC g).toArray 24 ∧ ObjAt W (w.heap.size + 2) zz26 28 ∧ Below w.heap.size w W
theorem BX9.start (w : World) (f g : AD) : BX9 w (((w.alloc (.cells (adC f).toArray 24)).alloc (.cells (adC g).toArray 24)).alloc (.cells zz26 28)) f g := by
  have s1 : (w.alloc (.cells (adC f).toArray 24)).heap.size = w.heap.size + 1 := by simp
  have s2 : ((w.alloc (.cells (adC f).toArray 24)).alloc (.cells (adC g).toArray 24)).heap.size = w.heap.size + 2 := by simp
  have k1 := (Below.refl w.heap.size w).alloc (Nat.le_refl _) (.cells (adC f).toArray 24)
  have k2 := (Below.refl _ (w.alloc (.cells (adC f).toArray 24))).alloc (Nat.le_refl _) (.cells (adC g).toArray 24)
  have k3 := (Below.refl _ ((w.alloc (.cells (adC f).toArray 24)).alloc (.cells (adC g).toArray 24))).alloc (Nat.le_refl _) (.cells zz26 28)
  have o1 := ObjAt.made w (adC f).toArray 24
  have o2 := ObjAt.made (w.alloc (.cells (adC f).toArray 24)) (adC g).toArray 24
  rw [s1] at o2
  have o3 := ObjAt.made ((w.alloc (.cells (adC f).toArray 24)).alloc (.cells (adC g).toArray 24)) zz26 28
  rw [s2] at o3
  have q1 := o1.below k2 o1.lt
  exact ⟨q1.below k3 q1.lt, o2.below k3 o2.lt, o3, bstep (bstep k1 k2) k3⟩
theorem BX9.below {w W W' : World} {f g : AD} (h : BX9 w W f g) (hb : Below W.heap.size W W') : BX9 w W' f g := ⟨h.1.below hb h.1.lt, h.2.1.below hb h.2.1.lt, h.2.2.1.below hb h.2.2.1.lt, bstep h.2.2.2 hb⟩
def RA9 (w W : World) : Prop := ObjAt W (w.heap.size + 2) zz26 28 ∧ Below w.heap.size w W
theorem BX9.ra {w W : World} {f g : AD} (h : BX9 w W f g) : RA9 w W := ⟨h.2.2.1, h.2.2.2⟩
theorem RA9.below {w W W' : World} (h : RA9 w W) (hb : Below W.heap.size W W') : RA9 w W' := ⟨h.1.below hb h.1.lt, bstep h.2 hb⟩
theorem RA9.free {w W : World} (h : RA9 w W) : free? W (w.heap.size + 2) 0 26 = true := obj_free h.1 (by simp)
theorem RA9.zero {w W : World} (h : RA9 w W) : row? (aggW W (w.heap.size + 2) (tkC zeroT (.slice none 0 0) (.slice none 0 0))) (w.heap.size + 2) 0 26 = some (tkC zeroT (.slice none 0 0) (.slice none 0 0)) ∧ Below w.heap.size w (aggW W (w.heap.size + 2) (tkC zeroT (.slice none 0 0) (.slice none 0 0))) :=
  ⟨aggW_row h.free (tkC_length zeroA_ok _ _), aggW_below h.2 (by omega) _⟩
structure RM9 (w W : World) (b0 m : Nat) (l : List UInt8) (k : Nat) (bad : Bool) : Prop where
  ra : RA9 w W
  rd : RdAt W b0 l k bad
  tk : ObjAt W m (tkC zeroT (.slice none 0 0) (.slice none 0 0)).toArray 28
  l0 : w.heap.size + 2 < b0
  lm : w.heap.size + 2 < m
  n2 : m ≠ b0
theorem RA9.reader {w W : World} (h : RA9 w W) (l : List UInt8) : RA9 w (W.alloc (.cells #[.string (Str l), .int .i64 0, .bool false] 164)) ∧ RdAt (W.alloc (.cells #[.string (Str l), .int .i64 0, .bool false] 164)) W.heap.size l 0 false ∧ w.heap.size + 2 < W.heap.size ∧ W.heap.size < (W.alloc (.cells #[.string (Str l), .int .i64 0, .bool false] 164)).heap.size :=
  ⟨h.below ((Below.refl _ _).alloc (Nat.le_refl _) _), ObjAt.made W _ _, h.1.lt, by simp⟩
theorem RM9.made {w W : World} {b0 : Nat} {l : List UInt8} {k : Nat} {bad : Bool} (h : RA9 w W) (hr : RdAt W b0 l k bad) (l0 : w.heap.size + 2 < b0) : RM9 w (aggW (W.alloc (.cells zz26 28)) W.heap.size (tkC zeroT (.slice none 0 0) (.slice none 0 0))) b0 W.heap.size l k bad := by
  have hm := TM.made (w := W) (t := zeroT) (Below.refl _ _) zeroA_ok (Ads.nil W) (Rcs.nil W)
  have hz := ObjAt.lt hr
  exact ⟨h.below hm.blw, ObjAt.below hr hm.blw hz, hm.tk.1, l0, h.1.lt, by omega⟩
theorem RM9.c {w W : World} {b0 m : Nat} {l : List UInt8} {k : Nat} {bad : Bool} (h : RM9 w W b0 m l k bad) : free? W (w.heap.size + 2) 0 26 = true ∧ row? W m 0 26 = some (tkC zeroT (.slice none 0 0) (.slice none 0 0)) :=
  ⟨h.ra.free, obj_rowk (A := []) (M := tkC zeroT (.slice none 0 0) (.slice none 0 0)) (C := []) (by simpa using h.tk) rfl (tkC_length zeroA_ok _ _)⟩
structure RC9m (w W : World) (m : Nat) (t : TK) (us ur : Value) : Prop where
  ra : RA9 w W
  tk : TkAt W m t us ur
  src : AdsT W us t.src
  rcs : RcT W ur t.rcs
theorem RM9.put {w W W' : World} {b0 m : Nat} {l : List UInt8} {k : Nat} {bad : Bool} {t : TK} {us ur : Value} (h : RM9 w W b0 m l k bad) (hg : W.grownBy W' (some b0)) (hs : AdsT W' us t.src) (hr : RcT W' ur t.rcs) (ho : adOk t.g) :
    free? W' m 0 26 = true ∧ fok (tkC t us ur).toArray 26 = true ∧ RC9m w (aggW W' m (tkC t us ur)) m t us ur := by
  have l0 := h.l0; have lm := h.lm
  have h1 := ObjAt.grown h.ra.1 hg (by simp; omega)
  have h2 := bgrown h.ra.2 hg (fun k hk => by simp at hk; omega)
  have h3 := ObjAt.grown h.tk hg (by simpa using h.n2)
  exact ⟨obj_free h3 (by have := tkC_length (t := zeroT) zeroA_ok (.slice none 0 0) (.slice none 0 0); simp; omega), fok_tk ho hs.1.one hr.rcs.one, ⟨aggW_other h1 _ (by omega), aggW_below h2 (by omega) _⟩, ⟨aggW_obj h3 (by rw [tkC_length ho, tkC_length zeroA_ok]) (tkC_one hs.1.one hr.rcs.one), ho⟩, hs.far9 h3 (by decide) (aggW_grown _ _ _), hr.far9 h3 (by decide) (by decide) (aggW_grown _ _ _)⟩
theorem RC9m.c {w W : World} {m : Nat} {t : TK} {us ur : Value} (h : RC9m w W m t us ur) : row? W m 0 26 = some (tkC t us ur) ∧ free? W (w.heap.size + 2) 0 26 = true ∧ fok (tkC t us ur).toArray 26 = true := ⟨h.tk.row, h.ra.free, fok_tk h.tk.2 h.src.1.one h.rcs.rcs.one⟩
theorem RC9m.done {w W : World} {m : Nat} {t : TK} {us ur : Value} (h : RC9m w W m t us ur) : row? (aggW W (w.heap.size + 2) (tkC t us ur)) (w.heap.size + 2) 0 26 = some (tkC t us ur) ∧ Below w.heap.size w (aggW W (w.heap.size + 2) (tkC t us ur)) ∧ AdsT (aggW W (w.heap.size + 2) (tkC t us ur)) us t.src ∧ RcT (aggW W (w.heap.size + 2) (tkC t us ur)) ur t.rcs ∧ adOk t.g :=
  ⟨aggW_row h.ra.free (tkC_length h.tk.2 _ _), aggW_below h.ra.2 (by omega) _, h.src.far9 h.ra.1 (by decide) (aggW_grown _ _ _), h.rcs.far9 h.ra.1 (by decide) (by decide) (aggW_grown _ _ _), h.tk.2⟩
end Go.Proofs.YtlbdehegknehiaaGreat

/- A part of the proof. -/
namespace Go.Proofs.YtlbdehegknehiaaGreat
set_option maxRecDepth 100000
set_option maxHeartbeats 4000000
open Go.RowKit
set_option linter.unusedVariables false
set_option linter.unusedSimpArgs false
attribute [local go_sem ↓] ld_addr st_addr bld_addr ld_tk st_tk bld_tk ld_sd st_sd bld_sd ld_pk st_pk bld_pk ld_ip st_ip bld_ip ld_iq st_iq bld_iq bld_b16
attribute [local go_sem] ldr_addr str_addr str_addr_at ldr_tk str_tk ldr_sd str_sd ldr_pk str_pk ldr_ip str_ip ldr_iq str_iq row?_drewN_eq row?_drew_eq
theorem zeroP_cells : (pkC zeroP).toArray = zz38 := rfl
theorem bld_pd (s : SD) (ho : s.ok) (w : World) : (aggBuild 58 #[(0, .agg (adC s.fr).toArray), (1, .agg (adC s.tw).toArray), (2, .int .i64 s.pro), (3, .int .i64 s.hop), (5, .string (Str s.da))]).run Tryz.prog w = .ok (.agg (pkC (dataP s)).toArray) w := by
  refine bld_run _ _ _ ?_ w
  obtain ⟨kind, vl, ⟨v, l⟩, ⟨u, m⟩, tk, pro, hop, da⟩ := s
  obtain ⟨h1, h2, _⟩ := ho
  simp only [adOk] at h1 h2
  obtain ⟨a0, a1, a2, a3, a4, a5, a6, a7, a8, a9, aa, ab, ac, ad, ae, af, rfl⟩ := list16 h1
  obtain ⟨b0, b1, b2, b3, b4, b5, b6, b7, b8, b9, ba, bb, bc, bd', be, bf, rfl⟩ := list16 h2
  kernel_rfl
theorem dataP_any (s : SD) (us ur : Value) (ho : s.ok) (w : World) : Calls Tryz.prog 24 #[.agg (sdC s us ur).toArray] w fun x w' => x = .returned (.agg (pkC (dataP s)).toArray) ∧ Below w.heap.size w w' := by
  have H0 := zh (Bx.made w (sdC s us ur).toArray 30 (pkC zeroP).toArray 58)
  have hb := fun w0 => bld_pd s ho w0
  have hp : (dataP s).ok := ⟨ho.1, ho.2.1⟩
  have hok := fok_pk hp
  have HL := zh (pkC_length hp)
  have HO := zh ho
  clear ho hp
  rw [zeroP_cells] at H0
  have hsz := HL
  generalize pkC (dataP s) = L at hb hok HL ⊢
  go_enter Tryz.func24, Tryz.ntmps24
  go_upto_region 1 with (fail)
  generalize (w.alloc (.cells (sdC s us ur).toArray 30)).alloc _ = W at H0 ⊢
  obtain ⟨⟨a1, a2, a3, a4⟩, -, -, a5, a6, a7⟩ := SV.of H0.out.one HO.out.1 HO.out.2.1 HO.out.2.2.1
  have hf := H0.out.free 38 (by simp)
  go_wp2
  obtain ⟨q1, q2⟩ := H0.out.done L (by rw [HL.out]; rfl)
  exact bodyPost_ret (results_cell Tryz.results24 rfl (ld_some q1 (ldr_pk _ _ _))) rfl ⟨rfl, q2⟩
theorem bN_lt (l : List UInt8) (i : Nat) : 0 ≤ bN l i ∧ bN l i < 256 := by
  unfold bN
  have := (l.getD i 0).toNat_lt
  omega
theorem may_cells {w W : World} {l : List UInt8} {v : Bool} (h : BoxAt w W v l) (hl : l.length = 16) : W.cell? ⟨w.heap.size, 1, none⟩ = some (.int .u8 (bN l 0)) ∧ W.cell? ⟨w.heap.size, 2, none⟩ = some (.int .u8 (bN l 1)) := by
  have h0 := h.at 0 (by omega)
  have h1 := h.at 1 (by omega)
  have e0 : bN l 0 = ((l[0]'(by omega)).toNat : Int) := by unfold bN; rw [List.getD_eq_getElem?_getD, List.getElem?_eq_getElem (by omega)]; rfl
  have e1 : bN l 1 = ((l[1]'(by omega)).toNat : Int) := by unfold bN; rw [List.getD_eq_getElem?_getD, List.getElem?_eq_getElem (by omega)]; rfl
  exact ⟨by rw [e0]; exact h0, by rw [e1]; exact h1⟩
theorem may_any (f : AD) (hf : adOk f) (kind : Int) (w : World) : Calls Tryz.prog 74 #[.agg (adC f).toArray, .int .i64 kind] w fun x w' => x = .returned (.bool (mayB f kind)) ∧ Below w.heap.size w w' := by
  obtain ⟨v, l⟩ := f
  have hl : l.length = 16 := hf
  have H0 := zh (BoxAt.made w v l hl 24)
  have HZ := zh (fun W => zero_any v l hl W)
  have hM : mayB (v, l) kind = (!v || (decide (bN l 0 = 254) && decide (bN l 1 / 64 = 2) || zeroV l && decide (kind ≠ 1))) := rfl
  rw [hM]
  obtain ⟨m0, m1⟩ := bN_lt l 1
  have HW : Hid (∀ W, BoxAt w W v l → (W.cell? ⟨w.heap.size, 1, none⟩ = some (.int .u8 (bN l 0)) ∧ W.cell? ⟨w.heap.size, 2, none⟩ = some (.int .u8 (bN l 1)))) := zh fun W h => may_cells h hl
  generalize bN l 0 = x0 at HW ⊢
  generalize bN l 1 = x1 at HW m0 m1 ⊢
  have hsh : (x1 / 64 : Int) = x1 / 2 ^ 6 := rfl
  generalize zeroV l = z at HZ ⊢
  obtain ⟨R, hR⟩ : ∃ R, R = (!v || (decide (x0 = 254) && decide (x1 / 64 = 2) || z && decide (kind ≠ 1))) := ⟨_, rfl⟩
  rw [← hR]
  have HR := zh hR; clear hR hM hl hf hsh
  rw [show (adC (v, l)) = addrC v l from rfl]
  go_enter Tryz.func74, Tryz.ntmps74
  go_upto_region 1 with (fail)
  generalize w.alloc (.cells (addrC v l).toArray 24) = W at H0 ⊢
  obtain ⟨c1, c2⟩ := HW.out _ H0.out
  have c0 := H0.out.1
  have hr := H0.out.2.2.1
  cases v with
  | false =>
    go_wp2
    go_ret
    exact ⟨ret_boolF (by rw [HR.out]; simp), H0.out.2.2.2.2⟩
  | true =>
    by_cases h0 : x0 = 254
    · by_cases h1 : x1 / 64 = 2
      · go_wp2
        go_ret
        exact ⟨ret_boolF (by rw [HR.out]; simp [h0, h1]), H0.out.2.2.2.2⟩
      · cases z with
        | false =>
          go_wp2_with (go_at_call 58; (with_reducible refine (HZ.out _).mono ?_); rintro x wn ⟨rfl, hb⟩; replace H0 := zh (H0.out.keep hb); clear hb)
          go_ret
          exact ⟨ret_boolF (by rw [HR.out]; simp [h0, h1]), H0.out.2.2.2.2⟩
        | true =>
          by_cases hk : kind = 1
          · go_wp2_with (go_at_call 58; (with_reducible refine (HZ.out _).mono ?_); rintro x wn ⟨rfl, hb⟩; replace H0 := zh (H0.out.keep hb); clear hb)
            go_ret
            exact ⟨ret_boolF (by rw [HR.out]; simp [h0, h1, hk]), H0.out.2.2.2.2⟩
          · go_wp2_with (go_at_call 58; (with_reducible refine (HZ.out _).mono ?_); rintro x wn ⟨rfl, hb⟩; replace H0 := zh (H0.out.keep hb); clear hb)
            go_ret
            exact ⟨ret_boolF (by rw [HR.out]; simp [h0, h1, hk]), H0.out.2.2.2.2⟩
    · cases z with
      | false =>
        go_wp2_with (go_at_call 58; (with_reducible refine (HZ.out _).mono ?_); rintro x wn ⟨rfl, hb⟩; replace H0 := zh (H0.out.keep hb); clear hb)
        go_ret
        exact ⟨ret_boolF (by rw [HR.out]; simp [h0]), H0.out.2.2.2.2⟩
      | true =>
        by_cases hk : kind = 1
        · go_wp2_with (go_at_call 58; (with_reducible refine (HZ.out _).mono ?_); rintro x wn ⟨rfl, hb⟩; replace H0 := zh (H0.out.keep hb); clear hb)
          go_ret
          exact ⟨ret_boolF (by rw [HR.out]; simp [h0, hk]), H0.out.2.2.2.2⟩
        · go_wp2_with (go_at_call 58; (with_reducible refine (HZ.out _).mono ?_); rintro x wn ⟨rfl, hb⟩; replace H0 := zh (H0.out.keep hb); clear hb)
          go_ret
          exact ⟨ret_boolF (by rw [HR.out]; simp [h0, hk]), H0.out.2.2.2.2⟩
theorem isTk_any (p : PK) (ho : p.ok) (hl : p.bd.length ≤ 100000) (w : World) : Calls Tryz.prog 40 #[.agg (pkC p).toArray] w fun x w' => x = .returned (.bool (isTk p)) ∧ Below w.heap.size w w' := by
  have H0 := zh (ObjAt.made w (pkC p).toArray 58)
  have HB := zh (bbox w (.cells (pkC p).toArray 58))
  have HI := zh (fun W => is9_any p.bd hl W)
  obtain ⟨R, hR⟩ : ∃ R, R = isTk p := ⟨_, rfl⟩
  rw [← hR]
  unfold isTk at hR
  have HV : Hid (∀ W, ObjAt W w.heap.size (pkC p).toArray 58 → W.cell? ⟨w.heap.size, 17, none⟩ = some (.bool p.tw.1) ∧ W.cell? ⟨w.heap.size, 34, none⟩ = some (.int .i64 p.pro) ∧ W.cell? ⟨w.heap.size, 37, none⟩ = some (.string (Str p.bd))) := zh fun W h => by
    obtain ⟨_, _, _, c3, c4, _, _, c7⟩ := PV.of h ho
    exact ⟨c3, c4, c7⟩
  generalize p.tw.1 = v at HV hR
  generalize p.pro = n at HV hR
  generalize isM p.bd = m at HI hR
  generalize Str p.bd = B at HV HI
  have HR := zh hR; clear hR ho hl
  go_enter Tryz.func40, Tryz.ntmps40
  go_upto_region 1 with (fail)
  generalize w.alloc (.cells (pkC p).toArray 58) = W at H0 HB ⊢
  obtain ⟨c1, c2, c3⟩ := HV.out _ H0.out
  cases v with
  | false =>
    go_wp2
    go_ret
    exact ⟨ret_boolF (by rw [HR.out]; rfl), HB.out⟩
  | true =>
    by_cases h : n = 58
    · subst h
      go_wp2_with (go_at_call 92; (with_reducible refine (HI.out _).mono ?_); rintro x wn ⟨rfl, hb⟩; replace HB := zh (bstep HB.out hb); clear hb)
      go_ret
      exact ⟨ret_boolF (by rw [HR.out]; simp), HB.out⟩
    · go_wp2
      go_ret
      exact ⟨ret_boolF (by rw [HR.out]; simp [h]), HB.out⟩
theorem goodPk_any (p : PK) (ho : p.ok) (hl : p.bd.length ≤ 100000) (w : World) : Calls Tryz.prog 75 #[.agg (pkC p).toArray] w fun x w' => x = .returned (.bool (goodPk p)) ∧ Below w.heap.size w w' := by
  have H0 := zh (ObjAt.made w (pkC p).toArray 58)
  have HB := zh (bbox w (.cells (pkC p).toArray 58))
  have HO := zh ho
  have H4 := zh (fun W => pkt4_any p ho W)
  have H6 := zh (fun W => pkt6_any p ho W)
  have G6 := zh (fun W => good6_any p.iq (PK.iq_ok ho) (show p.bd.length ≤ 1000000 by omega) W)
  have G4 := zh (fun W => good5_any p.ip (PK.ip_ok ho) (show p.bd.length ≤ 1000000 by omega) W)
  obtain ⟨R, hR⟩ : ∃ R, R = goodPk p := ⟨_, rfl⟩
  rw [← hR]
  unfold goodPk at hR
  generalize p.iq.good6 = g6 at G6 hR
  generalize p.ip.good = g4 at G4 hR
  have HR := zh hR; clear hR
  clear ho hl
  go_enter Tryz.func75, Tryz.ntmps75
  go_upto_region 1 with (fail)
  generalize w.alloc (.cells (pkC p).toArray 58) = W at H0 HB ⊢
  obtain ⟨c0, -, -, c3, -⟩ := PV.of H0.out HO.out
  cases hv : p.tw.1 with
  | true =>
    rw [hv] at c3 HR
    clear hv
    go_wp2_with (first
      | (go_at_call 65; (with_reducible refine (H6.out _).mono ?_); rintro x wn ⟨rfl, hb⟩; replace HB := zh (bstep HB.out hb); clear hb c0)
      | (go_at_call 137; (with_reducible refine (G6.out _).mono ?_); rintro x wn ⟨rfl, hb⟩; replace HB := zh (bstep HB.out hb); clear hb))
    go_ret
    exact ⟨ret_boolF (by rw [HR.out]; rfl), HB.out⟩
  | false =>
    rw [hv] at c3 HR
    clear hv
    go_wp2_with (first
      | (go_at_call 67; (with_reducible refine (H4.out _).mono ?_); rintro x wn ⟨rfl, hb⟩; replace HB := zh (bstep HB.out hb); clear hb c0)
      | (go_at_call 142; (with_reducible refine (G4.out _).mono ?_); rintro x wn ⟨rfl, hb⟩; replace HB := zh (bstep HB.out hb); clear hb))
    go_ret
    exact ⟨ret_boolF (by rw [HR.out]; rfl), HB.out⟩
theorem writePk_core (p : PK) (ho : p.ok) (hl : p.bd.length ≤ 100000) (B : List UInt8)
    (h6 : p.tw.1 = true → ∀ W, Calls Tryz.prog 64 #[.agg (ipC p.iq).toArray] W fun x w' => x = .returned (.tuple #[.string (Str B), .int .i64 0]) ∧ Below W.heap.size W w')
    (h4 : p.tw.1 = false → ∀ W, Calls Tryz.prog 66 #[.agg (ipC p.ip).toArray] W fun x w' => x = .returned (.tuple #[.string (Str B), .int .i64 0]) ∧ Below W.heap.size W w') (w : World) : Calls Tryz.prog 22 #[.agg (pkC p).toArray] w fun x w' => x = .returned (.tuple #[.int .i64 (pkT p), .string (Str B)]) ∧ Below w.heap.size w w' := by
  have H0 := zh (ObjAt.made w (pkC p).toArray 58)
  have HB := zh (bbox w (.cells (pkC p).toArray 58))
  have HO := zh ho
  have H4 := zh (fun W => pkt4_any p ho W)
  have H6 := zh (fun W => pkt6_any p ho W)
  have G6 := zh h6
  have G4 := zh h4
  have HT : Hid (pkT p = if p.tw.1 then 34525 else 2048) := zh rfl
  generalize pkT p = ty at HT ⊢
  generalize Str B = B at G6 G4 ⊢
  clear h4 h6
  clear ho hl
  go_enter Tryz.func22, Tryz.ntmps22
  go_upto_region 1 with (fail)
  generalize w.alloc (.cells (pkC p).toArray 58) = W at H0 HB ⊢
  obtain ⟨c0, -, -, c3, -⟩ := PV.of H0.out HO.out
  cases hv : p.tw.1 with
  | true =>
    replace G6 := zh (G6.out hv)
    rw [hv] at c3 HT
    obtain rfl : ty = 34525 := HT.out
    clear hv HT
    go_wp2_with (first
      | (go_at_call 65; (with_reducible refine (H6.out _).mono ?_); rintro x wn ⟨rfl, hb⟩; replace HB := zh (bstep HB.out hb); clear hb c0)
      | (go_at_call 64; (with_reducible refine (G6.out _).mono ?_); rintro x wn ⟨rfl, hb⟩; replace HB := zh (bstep HB.out hb); clear hb))
    go_ret2
    exact ⟨rfl, HB.out⟩
  | false =>
    replace G4 := zh (G4.out hv)
    rw [hv] at c3 HT
    obtain rfl : ty = 2048 := HT.out
    clear hv HT
    go_wp2_with (first
      | (go_at_call 67; (with_reducible refine (H4.out _).mono ?_); rintro x wn ⟨rfl, hb⟩; replace HB := zh (bstep HB.out hb); clear hb c0)
      | (go_at_call 66; (with_reducible refine (G4.out _).mono ?_); rintro x wn ⟨rfl, hb⟩; replace HB := zh (bstep HB.out hb); clear hb))
    go_ret2
    exact ⟨rfl, HB.out⟩
theorem writePk4_any (p : PK) (ho : p.ok) (hl : p.bd.length ≤ 100000) (hv : p.tw.1 = false) (hg : goodPk p = true) (w : World) : Calls Tryz.prog 22 #[.agg (pkC p).toArray] w fun x w' => x = .returned (.tuple #[.int .i64 (pkT p), .string (Str (pkB p))]) ∧ Below w.heap.size w w' :=
  writePk_core p ho hl (pkB p) (fun h => by rw [hv] at h; cases h) (fun _ W => by
    unfold goodPk at hg; unfold pkB; rw [hv] at hg ⊢
    exact write5_good p.ip (PK.ip_ok ho) hg W) w
end Go.Proofs.YtlbdehegknehiaaGreat

