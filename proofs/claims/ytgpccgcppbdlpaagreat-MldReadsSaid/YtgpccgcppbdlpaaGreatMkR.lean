/-
  The walk of the law MldReads.
-/
import Derived.Test.YtgpccgcppbdlpaaGreatMg43
namespace Go.Proofs.YtgpccgcppbdlpaaGreat
open Go.RowKit
set_option linter.unusedVariables false
set_option linter.unusedSimpArgs false
attribute [local go_sem ↓] ld_addr st_addr bld_addr ld_tk st_tk bld_tk
attribute [local go_sem] ldr_addr str_addr ldr_tk str_tk

theorem good9_rcs {t : TK} (h : good9 t = true) : t.rcs.length < 65 := by
  obtain ⟨_, h | h | h | h⟩ := good9_cases t h
  · exact h.2.2.2.2.2.1
  · rw [h.2.2.2.2.1]; simp
  · rw [h.2.2.2.2.2.1]; simp
  · rw [h.2.2.2.2.2.2.2.2.2]; simp
/-- Two addresses boxed first of all. -/
def AB9 (w W : World) (f g : AD) : Prop := ObjAt W w.heap.size (adC f).toArray 24 ∧ ObjAt W (w.heap.size + 1) (adC g).toArray 24 ∧ Below w.heap.size w W
theorem AB9.below {w W W' : World} {f g : AD} (h : AB9 w W f g) (hb : Below W.heap.size W W') : AB9 w W' f g := ⟨h.1.below hb h.1.lt, h.2.1.below hb h.2.1.lt, bstep h.2.2 hb⟩
theorem AB9.made (w : World) (f g : AD) : AB9 w ((w.alloc (.cells (adC f).toArray 24)).alloc (.cells (adC g).toArray 24)) f g := by
  have h1 := ObjAt.made w (adC f).toArray 24
  have h2 := ObjAt.made (w.alloc (.cells (adC f).toArray 24)) (adC g).toArray 24
  rw [show (w.alloc (.cells (adC f).toArray 24)).heap.size = w.heap.size + 1 by simp] at h2
  exact ⟨h1.alloc _, h2, ((Below.refl _ _).alloc (Nat.le_refl _) _).alloc (by simp) _⟩
theorem AB9.c {w W : World} {f g : AD} (h : AB9 w W f g) (hf : adOk f) (hg : adOk g) : row? W w.heap.size 0 17 = some (adC f) ∧ row? W (w.heap.size + 1) 0 17 = some (adC g) ∧ W.cell? ⟨w.heap.size, 0, none⟩ = some (.bool f.1) ∧ W.cell? ⟨w.heap.size + 1, 0, none⟩ = some (.bool g.1) :=
  ⟨obj_rowk (A := []) (M := adC f) (C := []) (by simpa using h.1) rfl (by simp [adC_length hf]), obj_rowk (A := []) (M := adC g) (C := []) (by simpa using h.2.1) rfl (by simp [adC_length hg]), by rw [ObjAt.cell h.1]; rfl, by rw [ObjAt.cell h.2.1]; rfl⟩
theorem AB9.tm {w W W1 : World} {f g : AD} {t : TK} {us ur : Value} (h : AB9 w W f g) (hb : Below W.heap.size W W1) (ho : adOk t.g) (hs : Ads W1 us t.src) (hr : Rcs W1 ur t.rcs) : AB9 w (aggW (W1.alloc (.cells #[.bool false, .int .i64 0, .int .i64 0, .int .i64 0, .bool false, .int .u8 0, .int .u8 0, .int .u8 0, .int .u8 0, .int .u8 0, .int .u8 0, .int .u8 0, .int .u8 0, .int .u8 0, .int .u8 0, .int .u8 0, .int .u8 0, .int .u8 0, .int .u8 0, .int .u8 0, .int .u8 0, .bool false, .int .i64 0, .int .i64 0, .slice none 0 0, .slice none 0 0] 28)) W1.heap.size (tkC t us ur)) f g ∧ TM w (aggW (W1.alloc (.cells #[.bool false, .int .i64 0, .int .i64 0, .int .i64 0, .bool false, .int .u8 0, .int .u8 0, .int .u8 0, .int .u8 0, .int .u8 0, .int .u8 0, .int .u8 0, .int .u8 0, .int .u8 0, .int .u8 0, .int .u8 0, .int .u8 0, .int .u8 0, .int .u8 0, .int .u8 0, .int .u8 0, .bool false, .int .i64 0, .int .i64 0, .slice none 0 0, .slice none 0 0] 28)) W1.heap.size (tkC t us ur)) W1.heap.size t us ur :=
  ⟨(h.below hb).below (aggW_below ((Below.refl _ _).alloc (Nat.le_refl _) _) (Nat.le_refl _) _), TM.made (bstep h.2.2 hb) ho hs hr⟩
theorem isM_nil {l : List UInt8} (h : l.length = 0) : isM l = false := by unfold isM; rw [decide_eq_false (by omega)]; rfl
theorem isM_in {l : List UInt8} (h : 0 < l.length) (hb : (130 ≤ by8 l 0 ∧ by8 l 0 ≤ 132) ∨ by8 l 0 = 143) : isM l = true := by
  unfold isM
  rw [decide_eq_true h, Bool.true_and, Bool.or_eq_true, decide_eq_true_eq, decide_eq_true_eq]
  exact hb
theorem isM_out {l : List UInt8} (hb : ¬ ((130 ≤ by8 l 0 ∧ by8 l 0 ≤ 132) ∨ by8 l 0 = 143)) : isM l = false := by
  unfold isM
  rw [decide_eq_false (fun h => hb (Or.inl h)), decide_eq_false (fun h => hb (Or.inr h))]
  simp

set_option maxRecDepth 100000 in
set_option maxHeartbeats 4000000 in
theorem mreads_f (f g : AD) (hf : adOk f) (hg : adOk g) (s : ByteArray) (hs : s.size ≤ maxLen) (hv : f.1 = false) (w : World) : Calls Tryz.prog 4 #[.string s, .agg (adC f).toArray, .agg (adC g).toArray] w fun x w' => x = .returned (.bool true) ∧ Below w.heap.size w w' := by
  obtain ⟨l, hlE⟩ : ∃ l : List UInt8, Str l = cutB s 200 := ⟨(cutB s 200).data.toList, Str_of _⟩
  have hll : l.length ≤ 200 := by have := cutB_size s 200; rw [← hlE, Str_size] at this; exact this
  have HC : Hid (∀ W, Calls Tryz.prog 15 #[.string s, .int .i64 200] W fun x w' => x = .returned (.string (Str l)) ∧ W = w') := Lib.hid fun W => by
    rw [hlE]; exact cut_any s hs 200 (by omega) W
  have HR := Lib.hid (fun W => read9_any f g hf hg l (by omega) W)
  unfold ReadV at HR
  have HL := Lib.hid (fun W => lives9_any W)
  have hfm := hfm26
  have H0 := Lib.hid (AB9.made w f g)
  have HCC := Lib.hid (fun W (h : AB9 w W f g) => h.c hf hg)
  have hrd : rd9 f g l = (zeroT, 1) := by unfold rd9; rw [if_neg (by rw [hv]; simp)]
  rw [hrd] at HR
  simp only at HR
  clear hrd
  have TZ : ∀ W, Tks W (tkC zeroT (.slice none 0 0) (.slice none 0 0)) zeroT := fun W => ⟨zeroA_ok, (.slice none 0 0), (.slice none 0 0), rfl, Ads.nil W, Rcs.nil W⟩
  have HS : Hid (∀ W ca cb, Tks W ca zeroT → Tks W cb zeroT → Calls Tryz.prog 13 #[.agg ca.toArray, .agg cb.toArray] W fun x w' => x = .returned (.bool true) ∧ Below W.heap.size W w') := Lib.hid fun W ca cb h1 h2 => by
    have := same_any ca cb zeroT zeroT W h1 h2
    rw [decide_eq_true rfl] at this
    exact this
  have hbz := bldr_tk0
  have HK : Hid (∀ W m us ur, TM w W m zeroT us ur → row? W m 0 26 = some (tkC zeroT us ur)) := Lib.hid fun W m us ur h => h.tk.row
  generalize Str l = S at HC HR
  clear hll hlE hs
  go_enter Tryz.func4, Tryz.ntmps4
  go_upto_region 1 with (fail)
  generalize (w.alloc (.cells (adC f).toArray 24)).alloc (.cells (adC g).toArray 24) = W at H0 ⊢
  obtain ⟨d1, d2, d3, d4⟩ := HCC.out _ H0.out
  go_upto_region 3 with (first
    | (go_at_call 15; (with_reducible refine (HC.out _).mono ?_); rintro x w0 ⟨rfl, rfl⟩)
    | (go_at_call 11; (with_reducible refine (HR.out _).mono ?_); rintro x w1 ⟨us, ur, rfl, hb1, ho1, hs1, hr1⟩; have hft := TM.fok ho1 hs1.1 hr1.rcs; have H1 := Lib.hid (H0.out.tm hb1 ho1 hs1.1 hr1.rcs); clear hb1 ho1 hs1 hr1))
  generalize aggW (w1.alloc (.cells #[.bool false, .int .i64 0, .int .i64 0, .int .i64 0, .bool false, .int .u8 0, .int .u8 0, .int .u8 0, .int .u8 0, .int .u8 0, .int .u8 0, .int .u8 0, .int .u8 0, .int .u8 0, .int .u8 0, .int .u8 0, .int .u8 0, .int .u8 0, .int .u8 0, .int .u8 0, .int .u8 0, .bool false, .int .i64 0, .int .i64 0, .slice none 0 0, .slice none 0 0] 28)) w1.heap.size _ = W2 at H1 ⊢
  generalize w1.heap.size = m1 at H1 ⊢
  clear hft d1 d2 d3 d4
  obtain ⟨d1, d2, d3, d4⟩ := HCC.out _ H1.out.1
  rw [hv] at d3
  go_upto_region 4 with (fail)
  have r1 := HK.out _ _ _ _ H1.out.2
  have HZ := Lib.hid (HS.out _ _ _ H1.out.2.tks (TZ W2))
  go_wp2_with (first
    | (go_at_call 13; (with_reducible refine (HZ.out).mono ?_); rintro x w5 ⟨rfl, hb5⟩; have H5 := Lib.hid (H1.out.1.below hb5); clear hb5)
    | (go_at_call 10; (with_reducible refine (HL.out _).mono ?_); rintro x w7 ⟨rfl, hb7⟩; have H7 := Lib.hid (H5.out.below hb7); clear hb7))
  go_ret
  exact ⟨rfl, H7.out.2.2⟩
set_option maxRecDepth 100000 in
set_option maxHeartbeats 4000000 in
theorem mreads_g (f g : AD) (hf : adOk f) (hg : adOk g) (s : ByteArray) (hs : s.size ≤ maxLen) (hv : f.1 = true) (hw : g.1 = false) (w : World) : Calls Tryz.prog 4 #[.string s, .agg (adC f).toArray, .agg (adC g).toArray] w fun x w' => x = .returned (.bool true) ∧ Below w.heap.size w w' := by
  obtain ⟨l, hlE⟩ : ∃ l : List UInt8, Str l = cutB s 200 := ⟨(cutB s 200).data.toList, Str_of _⟩
  have hll : l.length ≤ 200 := by have := cutB_size s 200; rw [← hlE, Str_size] at this; exact this
  have HC : Hid (∀ W, Calls Tryz.prog 15 #[.string s, .int .i64 200] W fun x w' => x = .returned (.string (Str l)) ∧ W = w') := Lib.hid fun W => by
    rw [hlE]; exact cut_any s hs 200 (by omega) W
  have HR := Lib.hid (fun W => read9_any f g hf hg l (by omega) W)
  unfold ReadV at HR
  have HL := Lib.hid (fun W => lives9_any W)
  have hfm := hfm26
  have H0 := Lib.hid (AB9.made w f g)
  have HCC := Lib.hid (fun W (h : AB9 w W f g) => h.c hf hg)
  have hrd : rd9 f g l = (zeroT, 1) := by unfold rd9; rw [if_neg (by rw [hv, hw]; simp)]
  rw [hrd] at HR
  simp only at HR
  clear hrd
  have TZ : ∀ W, Tks W (tkC zeroT (.slice none 0 0) (.slice none 0 0)) zeroT := fun W => ⟨zeroA_ok, (.slice none 0 0), (.slice none 0 0), rfl, Ads.nil W, Rcs.nil W⟩
  have HS : Hid (∀ W ca cb, Tks W ca zeroT → Tks W cb zeroT → Calls Tryz.prog 13 #[.agg ca.toArray, .agg cb.toArray] W fun x w' => x = .returned (.bool true) ∧ Below W.heap.size W w') := Lib.hid fun W ca cb h1 h2 => by
    have := same_any ca cb zeroT zeroT W h1 h2
    rw [decide_eq_true rfl] at this
    exact this
  have hbz := bldr_tk0
  have HK : Hid (∀ W m us ur, TM w W m zeroT us ur → row? W m 0 26 = some (tkC zeroT us ur)) := Lib.hid fun W m us ur h => h.tk.row
  generalize Str l = S at HC HR
  clear hll hlE hs
  go_enter Tryz.func4, Tryz.ntmps4
  go_upto_region 1 with (fail)
  generalize (w.alloc (.cells (adC f).toArray 24)).alloc (.cells (adC g).toArray 24) = W at H0 ⊢
  obtain ⟨d1, d2, d3, d4⟩ := HCC.out _ H0.out
  go_upto_region 3 with (first
    | (go_at_call 15; (with_reducible refine (HC.out _).mono ?_); rintro x w0 ⟨rfl, rfl⟩)
    | (go_at_call 11; (with_reducible refine (HR.out _).mono ?_); rintro x w1 ⟨us, ur, rfl, hb1, ho1, hs1, hr1⟩; have hft := TM.fok ho1 hs1.1 hr1.rcs; have H1 := Lib.hid (H0.out.tm hb1 ho1 hs1.1 hr1.rcs); clear hb1 ho1 hs1 hr1))
  generalize aggW (w1.alloc (.cells #[.bool false, .int .i64 0, .int .i64 0, .int .i64 0, .bool false, .int .u8 0, .int .u8 0, .int .u8 0, .int .u8 0, .int .u8 0, .int .u8 0, .int .u8 0, .int .u8 0, .int .u8 0, .int .u8 0, .int .u8 0, .int .u8 0, .int .u8 0, .int .u8 0, .int .u8 0, .int .u8 0, .bool false, .int .i64 0, .int .i64 0, .slice none 0 0, .slice none 0 0] 28)) w1.heap.size _ = W2 at H1 ⊢
  generalize w1.heap.size = m1 at H1 ⊢
  clear hft d1 d2 d3 d4
  obtain ⟨d1, d2, d3, d4⟩ := HCC.out _ H1.out.1
  rw [hv] at d3
  rw [hw] at d4
  go_upto_region 4 with (fail)
  have r1 := HK.out _ _ _ _ H1.out.2
  have HZ := Lib.hid (HS.out _ _ _ H1.out.2.tks (TZ W2))
  go_wp2_with (first
    | (go_at_call 13; (with_reducible refine (HZ.out).mono ?_); rintro x w5 ⟨rfl, hb5⟩; have H5 := Lib.hid (H1.out.1.below hb5); clear hb5)
    | (go_at_call 10; (with_reducible refine (HL.out _).mono ?_); rintro x w7 ⟨rfl, hb7⟩; have H7 := Lib.hid (H5.out.below hb7); clear hb7))
  go_ret
  exact ⟨rfl, H7.out.2.2⟩
set_option maxRecDepth 100000 in
set_option maxHeartbeats 4000000 in
theorem mreads_v (f g : AD) (hf : adOk f) (hg : adOk g) (s : ByteArray) (hs : s.size ≤ maxLen) (hv : f.1 = true) (hw : g.1 = true) (w : World) : Calls Tryz.prog 4 #[.string s, .agg (adC f).toArray, .agg (adC g).toArray] w fun x w' => x = .returned (.bool true) ∧ Below w.heap.size w w' := by
  obtain ⟨l, hlE⟩ : ∃ l : List UInt8, Str l = cutB s 200 := ⟨(cutB s 200).data.toList, Str_of _⟩
  have hll : l.length ≤ 200 := by have := cutB_size s 200; rw [← hlE, Str_size] at this; exact this
  have HC : Hid (∀ W, Calls Tryz.prog 15 #[.string s, .int .i64 200] W fun x w' => x = .returned (.string (Str l)) ∧ W = w') := Lib.hid fun W => by
    rw [hlE]; exact cut_any s hs 200 (by omega) W
  have HR := Lib.hid (fun W => read9_any f g hf hg l (by omega) W)
  unfold ReadV at HR
  have HL := Lib.hid (fun W => lives9_any W)
  have hfm := hfm26
  have H0 := Lib.hid (AB9.made w f g)
  have HCC := Lib.hid (fun W (h : AB9 w W f g) => h.c hf hg)
  have hrd : rd9 f g l = readM (psM f g l.length) l := by unfold rd9; rw [if_pos (by rw [hv, hw]; rfl)]
  rw [hrd] at HR
  have HX := Lib.hid (fun W => (rread9_any f g hf hg hv l (by omega) W))
  unfold ReadM at HX
  have HGD := Lib.hid (fun h => reads_good9 (psM f g l.length) l (by omega) h)
  obtain ⟨T, hT⟩ : ∃ T, T = (readM (psM f g l.length) l).1 := ⟨_, rfl⟩
  obtain ⟨E, hE⟩ : ∃ E, E = (readM (psM f g l.length) l).2 := ⟨_, rfl⟩
  rw [← hT, ← hE] at HR HX HGD
  have HG : Hid (E = 0 → ∀ W us ur, adOk T.g → Ads W us T.src → Rcs W ur T.rcs → Calls Tryz.prog 8 #[.agg (tkC T us ur).toArray] W fun x w' => x = .returned (.bool true) ∧ Below W.heap.size W w') := Lib.hid fun h W us ur ho hs hr => by
    obtain ⟨g1, g2⟩ := HGD.out h
    have := good9_any T us ur W g2 hs hr (by have := good9_rcs g1; omega)
    rw [g1] at this
    exact this
  have HS : Hid (∀ W ca cb, Tks W ca T → Tks W cb T → Calls Tryz.prog 13 #[.agg ca.toArray, .agg cb.toArray] W fun x w' => x = .returned (.bool true) ∧ Below W.heap.size W w') := Lib.hid fun W ca cb h1 h2 => by
    have := same_any ca cb T T W h1 h2
    rw [decide_eq_true rfl] at this
    exact this
  have HI0 : Hid (∀ W, Calls Tryz.prog 14 #[.string (Str l)] W fun x w' => x = .returned (.bool (isM l)) ∧ Below W.heap.size W w') := Lib.hid fun W => is9_any l (by omega) W
  have hee : (E == E) = true := by simp
  have hsz := Str_size l
  have HLL := Lib.hid hll
  clear hll hlE hs hT hE HGD hrd
  have K2 : Hid (∀ (W : World) (m1 m2 : Nat) (u1 v1 u2 v2 : Value), TM29 w W m1 m2 T T u1 v1 u2 v2 → row? W m1 0 26 = some (tkC T u1 v1) ∧ row? W m2 0 26 = some (tkC T u2 v2)) := Lib.hid fun W m1 m2 u1 v1 u2 v2 h => ⟨h.1.tk.row, h.2.tk.row⟩
  go_enter Tryz.func4, Tryz.ntmps4
  go_upto_region 1 with (fail)
  generalize (w.alloc (.cells (adC f).toArray 24)).alloc (.cells (adC g).toArray 24) = W at H0 ⊢
  obtain ⟨d1, d2, d3, d4⟩ := HCC.out _ H0.out
  go_upto_region 3 with (first
    | (go_at_call 15; (with_reducible refine (HC.out _).mono ?_); rintro x w0 ⟨rfl, rfl⟩)
    | (go_at_call 11; (with_reducible refine (HR.out _).mono ?_); rintro x w1 ⟨us, ur, rfl, hb1, ho1, hs1, hr1⟩; have hft := TM.fok ho1 hs1.1 hr1.rcs; have H1 := Lib.hid (H0.out.tm hb1 ho1 hs1.1 hr1.rcs); clear hb1 ho1 hs1 hr1))
  generalize aggW (w1.alloc (.cells #[.bool false, .int .i64 0, .int .i64 0, .int .i64 0, .bool false, .int .u8 0, .int .u8 0, .int .u8 0, .int .u8 0, .int .u8 0, .int .u8 0, .int .u8 0, .int .u8 0, .int .u8 0, .int .u8 0, .int .u8 0, .int .u8 0, .int .u8 0, .int .u8 0, .int .u8 0, .int .u8 0, .bool false, .int .i64 0, .int .i64 0, .slice none 0 0, .slice none 0 0] 28)) w1.heap.size _ = W2 at H1 ⊢
  generalize w1.heap.size = m1 at H1 ⊢
  clear hft d1 d2 d3 d4
  obtain ⟨d1, d2, d3, d4⟩ := HCC.out _ H1.out.1
  rw [hv] at d3
  rw [hw] at d4
  go_upto_region 6 with (go_at_call 16; (with_reducible refine (HX.out _).mono ?_); rintro x w3 ⟨us2, ur2, rfl, hb3, ho3, hs3, hr3⟩; have hft := TM.fok ho3 hs3.1 hr3.rcs; have H3 := Lib.hid ((H1.out.2.below hb3).second9 ho3 hs3.1 hr3.rcs); clear hb3 ho3 hs3 hr3)
  generalize aggW (w3.alloc (.cells #[.bool false, .int .i64 0, .int .i64 0, .int .i64 0, .bool false, .int .u8 0, .int .u8 0, .int .u8 0, .int .u8 0, .int .u8 0, .int .u8 0, .int .u8 0, .int .u8 0, .int .u8 0, .int .u8 0, .int .u8 0, .int .u8 0, .int .u8 0, .int .u8 0, .int .u8 0, .int .u8 0, .bool false, .int .i64 0, .int .i64 0, .slice none 0 0, .slice none 0 0] 28)) w3.heap.size _ = W4 at H3 ⊢
  generalize w3.heap.size = m2 at H3 ⊢
  clear hft hfm HR HX HC d1 d2 d3 d4 hv hw
  obtain ⟨r1, r2⟩ := K2.out _ _ _ _ _ _ _ H3.out
  have HS3 := Lib.hid (HS.out _ _ _ H3.out.1.tks H3.out.2.tks)
  by_cases hn : l.length = 0
  · have dl : ¬ (0 : Int) < (l.length : Int) := by omega
    have HI : Hid (∀ W, Calls Tryz.prog 14 #[.string (Str l)] W fun x w' => x = .returned (.bool false) ∧ Below W.heap.size W w') := Lib.hid fun W => by
      have := HI0.out W
      rw [isM_nil hn] at this
      exact this
    clear HI0
    clear hn
    by_cases h0 : E = 0
    · have te : (E != 0) = false := by rw [bne_eq_false_iff_eq]; exact h0
      have HG2 := Lib.hid (HG.out h0)
      clear h0
      go_wp2_with (first
        | (go_at_call 13; (with_reducible refine (HS3.out).mono ?_); rintro x w5 ⟨rfl, hb5⟩; have H5 := Lib.hid (H3.out.below hb5); clear hb5 r1 r2)
        | (go_at_call 14; (with_reducible refine (HI.out _).mono ?_); rintro x w6 ⟨rfl, hb6⟩; have H6 := Lib.hid (H5.out.below hb6); clear hb6; obtain ⟨r1, r2⟩ := K2.out _ _ _ _ _ _ _ H6.out; have HG6 := Lib.hid (HG2.out _ _ _ H6.out.1.tk.2 H6.out.1.src H6.out.1.rcs))
        | (go_at_call 8; (with_reducible refine (HG6.out).mono ?_); rintro x w7 ⟨rfl, hb7⟩; have H7 := Lib.hid (H6.out.below hb7); clear hb7)
        | (go_at_call 10; (with_reducible refine (HL.out _).mono ?_); rintro x w8 ⟨rfl, hb8⟩; have H8 := Lib.hid (H7.out.below hb8); clear hb8))
      go_ret
      exact ⟨rfl, H8.out.1.blw⟩
    · have te : (E != 0) = true := by rw [bne_iff_ne]; exact h0
      have HE0 := Lib.hid h0
      clear h0
      go_wp2_with (first
        | (go_at_call 13; (with_reducible refine (HS3.out).mono ?_); rintro x w5 ⟨rfl, hb5⟩; have H5 := Lib.hid (H3.out.below hb5); clear hb5 r1 r2)
        | (go_at_call 14; (with_reducible refine (HI.out _).mono ?_); rintro x w6 ⟨rfl, hb6⟩; have H6 := Lib.hid (H5.out.below hb6); clear hb6; obtain ⟨r1, r2⟩ := K2.out _ _ _ _ _ _ _ H6.out)
        | (go_at_call 10; (with_reducible refine (HL.out _).mono ?_); rintro x w8 ⟨rfl, hb8⟩; have H8 := Lib.hid (H6.out.below hb8); clear hb8))
      go_ret
      exact ⟨rfl, H8.out.1.blw⟩
  have dl : (0 : Int) < (l.length : Int) := by omega
  have hn0 : 0 < l.length := by omega
  have e0 := Str_at l 0 (by rw [Str_size]; exact hn0)
  have HN := Lib.hid hn
  clear hn
  by_cases h130 : by8 l 0 = 130
  · have HI : Hid (∀ W, Calls Tryz.prog 14 #[.string (Str l)] W fun x w' => x = .returned (.bool true) ∧ Below W.heap.size W w') := Lib.hid fun W => by
      have := HI0.out W
      rw [isM_in hn0 (by omega)] at this
      exact this
    clear HI0
    rw [h130] at e0
    clear h130
    by_cases h0 : E = 0
    · have te : (E != 0) = false := by rw [bne_eq_false_iff_eq]; exact h0
      have HG2 := Lib.hid (HG.out h0)
      clear h0
      go_wp2_with (first
        | (go_at_call 13; (with_reducible refine (HS3.out).mono ?_); rintro x w5 ⟨rfl, hb5⟩; have H5 := Lib.hid (H3.out.below hb5); clear hb5 r1 r2)
        | (go_at_call 14; (with_reducible refine (HI.out _).mono ?_); rintro x w6 ⟨rfl, hb6⟩; have H6 := Lib.hid (H5.out.below hb6); clear hb6; obtain ⟨r1, r2⟩ := K2.out _ _ _ _ _ _ _ H6.out; have HG6 := Lib.hid (HG2.out _ _ _ H6.out.1.tk.2 H6.out.1.src H6.out.1.rcs))
        | (go_at_call 8; (with_reducible refine (HG6.out).mono ?_); rintro x w7 ⟨rfl, hb7⟩; have H7 := Lib.hid (H6.out.below hb7); clear hb7)
        | (go_at_call 10; (with_reducible refine (HL.out _).mono ?_); rintro x w8 ⟨rfl, hb8⟩; have H8 := Lib.hid (H7.out.below hb8); clear hb8))
      go_ret
      exact ⟨rfl, H8.out.1.blw⟩
    · have te : (E != 0) = true := by rw [bne_iff_ne]; exact h0
      have HE0 := Lib.hid h0
      clear h0
      go_wp2_with (first
        | (go_at_call 13; (with_reducible refine (HS3.out).mono ?_); rintro x w5 ⟨rfl, hb5⟩; have H5 := Lib.hid (H3.out.below hb5); clear hb5 r1 r2)
        | (go_at_call 14; (with_reducible refine (HI.out _).mono ?_); rintro x w6 ⟨rfl, hb6⟩; have H6 := Lib.hid (H5.out.below hb6); clear hb6; obtain ⟨r1, r2⟩ := K2.out _ _ _ _ _ _ _ H6.out)
        | (go_at_call 10; (with_reducible refine (HL.out _).mono ?_); rintro x w8 ⟨rfl, hb8⟩; have H8 := Lib.hid (H6.out.below hb8); clear hb8))
      go_ret
      exact ⟨rfl, H8.out.1.blw⟩
  by_cases h131 : by8 l 0 = 131
  · have HI : Hid (∀ W, Calls Tryz.prog 14 #[.string (Str l)] W fun x w' => x = .returned (.bool true) ∧ Below W.heap.size W w') := Lib.hid fun W => by
      have := HI0.out W
      rw [isM_in hn0 (by omega)] at this
      exact this
    clear HI0
    rw [h131] at e0
    clear h131 h130
    by_cases h0 : E = 0
    · have te : (E != 0) = false := by rw [bne_eq_false_iff_eq]; exact h0
      have HG2 := Lib.hid (HG.out h0)
      clear h0
      go_wp2_with (first
        | (go_at_call 13; (with_reducible refine (HS3.out).mono ?_); rintro x w5 ⟨rfl, hb5⟩; have H5 := Lib.hid (H3.out.below hb5); clear hb5 r1 r2)
        | (go_at_call 14; (with_reducible refine (HI.out _).mono ?_); rintro x w6 ⟨rfl, hb6⟩; have H6 := Lib.hid (H5.out.below hb6); clear hb6; obtain ⟨r1, r2⟩ := K2.out _ _ _ _ _ _ _ H6.out; have HG6 := Lib.hid (HG2.out _ _ _ H6.out.1.tk.2 H6.out.1.src H6.out.1.rcs))
        | (go_at_call 8; (with_reducible refine (HG6.out).mono ?_); rintro x w7 ⟨rfl, hb7⟩; have H7 := Lib.hid (H6.out.below hb7); clear hb7)
        | (go_at_call 10; (with_reducible refine (HL.out _).mono ?_); rintro x w8 ⟨rfl, hb8⟩; have H8 := Lib.hid (H7.out.below hb8); clear hb8))
      go_ret
      exact ⟨rfl, H8.out.1.blw⟩
    · have te : (E != 0) = true := by rw [bne_iff_ne]; exact h0
      have HE0 := Lib.hid h0
      clear h0
      go_wp2_with (first
        | (go_at_call 13; (with_reducible refine (HS3.out).mono ?_); rintro x w5 ⟨rfl, hb5⟩; have H5 := Lib.hid (H3.out.below hb5); clear hb5 r1 r2)
        | (go_at_call 14; (with_reducible refine (HI.out _).mono ?_); rintro x w6 ⟨rfl, hb6⟩; have H6 := Lib.hid (H5.out.below hb6); clear hb6; obtain ⟨r1, r2⟩ := K2.out _ _ _ _ _ _ _ H6.out)
        | (go_at_call 10; (with_reducible refine (HL.out _).mono ?_); rintro x w8 ⟨rfl, hb8⟩; have H8 := Lib.hid (H6.out.below hb8); clear hb8))
      go_ret
      exact ⟨rfl, H8.out.1.blw⟩
  by_cases h132 : by8 l 0 = 132
  · have HI : Hid (∀ W, Calls Tryz.prog 14 #[.string (Str l)] W fun x w' => x = .returned (.bool true) ∧ Below W.heap.size W w') := Lib.hid fun W => by
      have := HI0.out W
      rw [isM_in hn0 (by omega)] at this
      exact this
    clear HI0
    rw [h132] at e0
    clear h132 h130 h131
    by_cases h0 : E = 0
    · have te : (E != 0) = false := by rw [bne_eq_false_iff_eq]; exact h0
      have HG2 := Lib.hid (HG.out h0)
      clear h0
      go_wp2_with (first
        | (go_at_call 13; (with_reducible refine (HS3.out).mono ?_); rintro x w5 ⟨rfl, hb5⟩; have H5 := Lib.hid (H3.out.below hb5); clear hb5 r1 r2)
        | (go_at_call 14; (with_reducible refine (HI.out _).mono ?_); rintro x w6 ⟨rfl, hb6⟩; have H6 := Lib.hid (H5.out.below hb6); clear hb6; obtain ⟨r1, r2⟩ := K2.out _ _ _ _ _ _ _ H6.out; have HG6 := Lib.hid (HG2.out _ _ _ H6.out.1.tk.2 H6.out.1.src H6.out.1.rcs))
        | (go_at_call 8; (with_reducible refine (HG6.out).mono ?_); rintro x w7 ⟨rfl, hb7⟩; have H7 := Lib.hid (H6.out.below hb7); clear hb7)
        | (go_at_call 10; (with_reducible refine (HL.out _).mono ?_); rintro x w8 ⟨rfl, hb8⟩; have H8 := Lib.hid (H7.out.below hb8); clear hb8))
      go_ret
      exact ⟨rfl, H8.out.1.blw⟩
    · have te : (E != 0) = true := by rw [bne_iff_ne]; exact h0
      have HE0 := Lib.hid h0
      clear h0
      go_wp2_with (first
        | (go_at_call 13; (with_reducible refine (HS3.out).mono ?_); rintro x w5 ⟨rfl, hb5⟩; have H5 := Lib.hid (H3.out.below hb5); clear hb5 r1 r2)
        | (go_at_call 14; (with_reducible refine (HI.out _).mono ?_); rintro x w6 ⟨rfl, hb6⟩; have H6 := Lib.hid (H5.out.below hb6); clear hb6; obtain ⟨r1, r2⟩ := K2.out _ _ _ _ _ _ _ H6.out)
        | (go_at_call 10; (with_reducible refine (HL.out _).mono ?_); rintro x w8 ⟨rfl, hb8⟩; have H8 := Lib.hid (H6.out.below hb8); clear hb8))
      go_ret
      exact ⟨rfl, H8.out.1.blw⟩
  by_cases h143 : by8 l 0 = 143
  · have HI : Hid (∀ W, Calls Tryz.prog 14 #[.string (Str l)] W fun x w' => x = .returned (.bool true) ∧ Below W.heap.size W w') := Lib.hid fun W => by
      have := HI0.out W
      rw [isM_in hn0 (by omega)] at this
      exact this
    clear HI0
    rw [h143] at e0
    clear h143 h130 h131 h132
    by_cases h0 : E = 0
    · have te : (E != 0) = false := by rw [bne_eq_false_iff_eq]; exact h0
      have HG2 := Lib.hid (HG.out h0)
      clear h0
      go_wp2_with (first
        | (go_at_call 13; (with_reducible refine (HS3.out).mono ?_); rintro x w5 ⟨rfl, hb5⟩; have H5 := Lib.hid (H3.out.below hb5); clear hb5 r1 r2)
        | (go_at_call 14; (with_reducible refine (HI.out _).mono ?_); rintro x w6 ⟨rfl, hb6⟩; have H6 := Lib.hid (H5.out.below hb6); clear hb6; obtain ⟨r1, r2⟩ := K2.out _ _ _ _ _ _ _ H6.out; have HG6 := Lib.hid (HG2.out _ _ _ H6.out.1.tk.2 H6.out.1.src H6.out.1.rcs))
        | (go_at_call 8; (with_reducible refine (HG6.out).mono ?_); rintro x w7 ⟨rfl, hb7⟩; have H7 := Lib.hid (H6.out.below hb7); clear hb7)
        | (go_at_call 10; (with_reducible refine (HL.out _).mono ?_); rintro x w8 ⟨rfl, hb8⟩; have H8 := Lib.hid (H7.out.below hb8); clear hb8))
      go_ret
      exact ⟨rfl, H8.out.1.blw⟩
    · have te : (E != 0) = true := by rw [bne_iff_ne]; exact h0
      have HE0 := Lib.hid h0
      clear h0
      go_wp2_with (first
        | (go_at_call 13; (with_reducible refine (HS3.out).mono ?_); rintro x w5 ⟨rfl, hb5⟩; have H5 := Lib.hid (H3.out.below hb5); clear hb5 r1 r2)
        | (go_at_call 14; (with_reducible refine (HI.out _).mono ?_); rintro x w6 ⟨rfl, hb6⟩; have H6 := Lib.hid (H5.out.below hb6); clear hb6; obtain ⟨r1, r2⟩ := K2.out _ _ _ _ _ _ _ H6.out)
        | (go_at_call 10; (with_reducible refine (HL.out _).mono ?_); rintro x w8 ⟨rfl, hb8⟩; have H8 := Lib.hid (H6.out.below hb8); clear hb8))
      go_ret
      exact ⟨rfl, H8.out.1.blw⟩
  have x1 : ((by8 l 0 : Int) == 130) = false := by rw [beq_eq_false_iff_ne]; omega
  have x2 : ((by8 l 0 : Int) == 131) = false := by rw [beq_eq_false_iff_ne]; omega
  have x3 : ((by8 l 0 : Int) == 132) = false := by rw [beq_eq_false_iff_ne]; omega
  have x4 : ((by8 l 0 : Int) == 143) = false := by rw [beq_eq_false_iff_ne]; omega
  have HI : Hid (∀ W, Calls Tryz.prog 14 #[.string (Str l)] W fun x w' => x = .returned (.bool false) ∧ Below W.heap.size W w') := Lib.hid fun W => by
    have := HI0.out W
    rw [isM_out (by omega)] at this
    exact this
  clear HI0
  clear h130 h131 h132 h143
  generalize by8 l 0 = b0 at *
  by_cases h0 : E = 0
  · have te : (E != 0) = false := by rw [bne_eq_false_iff_eq]; exact h0
    have HG2 := Lib.hid (HG.out h0)
    clear h0
    go_wp2_with (first
      | (go_at_call 13; (with_reducible refine (HS3.out).mono ?_); rintro x w5 ⟨rfl, hb5⟩; have H5 := Lib.hid (H3.out.below hb5); clear hb5 r1 r2)
      | (go_at_call 14; (with_reducible refine (HI.out _).mono ?_); rintro x w6 ⟨rfl, hb6⟩; have H6 := Lib.hid (H5.out.below hb6); clear hb6; obtain ⟨r1, r2⟩ := K2.out _ _ _ _ _ _ _ H6.out; have HG6 := Lib.hid (HG2.out _ _ _ H6.out.1.tk.2 H6.out.1.src H6.out.1.rcs))
      | (go_at_call 8; (with_reducible refine (HG6.out).mono ?_); rintro x w7 ⟨rfl, hb7⟩; have H7 := Lib.hid (H6.out.below hb7); clear hb7)
      | (go_at_call 10; (with_reducible refine (HL.out _).mono ?_); rintro x w8 ⟨rfl, hb8⟩; have H8 := Lib.hid (H7.out.below hb8); clear hb8))
    go_ret
    exact ⟨rfl, H8.out.1.blw⟩
  · have te : (E != 0) = true := by rw [bne_iff_ne]; exact h0
    have HE0 := Lib.hid h0
    clear h0
    go_wp2_with (first
      | (go_at_call 13; (with_reducible refine (HS3.out).mono ?_); rintro x w5 ⟨rfl, hb5⟩; have H5 := Lib.hid (H3.out.below hb5); clear hb5 r1 r2)
      | (go_at_call 14; (with_reducible refine (HI.out _).mono ?_); rintro x w6 ⟨rfl, hb6⟩; have H6 := Lib.hid (H5.out.below hb6); clear hb6; obtain ⟨r1, r2⟩ := K2.out _ _ _ _ _ _ _ H6.out)
      | (go_at_call 10; (with_reducible refine (HL.out _).mono ?_); rintro x w8 ⟨rfl, hb8⟩; have H8 := Lib.hid (H6.out.below hb8); clear hb8))
    go_ret
    exact ⟨rfl, H8.out.1.blw⟩

theorem mreads (f g : AD) (hf : adOk f) (hg : adOk g) (s : ByteArray) (hs : s.size ≤ maxLen) (w : World) : Calls Tryz.prog 4 #[.string s, .agg (adC f).toArray, .agg (adC g).toArray] w fun x w' => x = .returned (.bool true) ∧ Below w.heap.size w w' := by
  cases hv : f.1 with
  | false => exact mreads_f f g hf hg s hs hv w
  | true =>
    cases hw : g.1 with
    | false => exact mreads_g f g hf hg s hs hv hw w
    | true => exact mreads_v f g hf hg s hs hv hw w
end Go.Proofs.YtgpccgcppbdlpaaGreat
