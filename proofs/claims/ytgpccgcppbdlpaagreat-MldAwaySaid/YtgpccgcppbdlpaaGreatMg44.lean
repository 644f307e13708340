/-
  Texts joined: MkP, MlS, TkI, MkL, MkR, TlF, TlG, TlH, MkW.
-/
import Derived.Test.YtgpccgcppbdlpaaGreatMgZ
import Derived.Test.YtgpccgcppbdlpaaGreatMgH
import Derived.Test.YtgpccgcppbdlpaaGreatMg27
import Derived.Test.YtgpccgcppbdlpaaGreatMg10
import Derived.Deep.RegionHeld3
import Derived.Test.YtgpccgcppbdlpaaGreatMg22
/-
  The contracts of package mld.
-/
namespace Go.Proofs.YtgpccgcppbdlpaaGreat
open Go.RowKit
set_option linter.unusedVariables false
theorem write9_any (f g : AD) (hf : adOk f) (hg : adOk g) (t : TK) (us ur : Value) (w : World) (ho : t.ok) (hs : Ads w us t.src) (hr : Rcs w ur t.rcs) (hL : t.rcs.length ≤ 1000) : Calls Tryz.prog 7 #[.agg (tkC t us ur).toArray, .agg (adC f).toArray, .agg (adC g).toArray] w fun x w' => x = .returned (.tuple #[.string (Str (wr9 f g t)), .int .i64 (wr9E f g t)]) ∧ Below w.heap.size w w' :=
  write9_core f g hf hg t us ur w ho hs hr hL _ _ rfl rfl
end Go.Proofs.YtgpccgcppbdlpaaGreat

/-
  The law's six.
-/
namespace Go.Proofs.YtgpccgcppbdlpaaGreat
open Go.RowKit
set_option linter.unusedVariables false
attribute [local go_sem ↓] ld_addr st_addr bld_addr bld_b16
attribute [local go_sem] ldr_addr str_addr

def sixA (a b : UInt8) : AD := (true, [a, 2, 0, 0, 0, 0, 0, 0, 0, 0, 0, 0, 0, 0, 0, b])
theorem sixA_ok (a b : UInt8) : adOk (sixA a b) := rfl
theorem bl_x16 (a b : UInt8) (w : World) : (aggBuild 22 #[(0, .int .u8 a.toNat), (1, .int .u8 2), (15, .int .u8 b.toNat)]).run Tryz.prog w = .ok (.agg (B8 [a, 2, 0, 0, 0, 0, 0, 0, 0, 0, 0, 0, 0, 0, 0, b]).toArray) w := bld_run _ _ _ (by kernel_rfl) _
theorem bl_xa (a b : UInt8) (w : World) : (aggBuild 24 #[(0, .bool true), (1, .agg (B8 [a, 2, 0, 0, 0, 0, 0, 0, 0, 0, 0, 0, 0, 0, 0, b]).toArray)]).run Tryz.prog w = .ok (.agg (adC (sixA a b)).toArray) w := bld_run _ _ _ (by kernel_rfl) _
set_option maxRecDepth 100000 in
theorem lsix_any (a b : UInt8) (w : World) : Calls Tryz.prog 42 #[.int .u8 a.toNat, .int .u8 b.toNat] w fun x w' => x = .returned (.agg (adC (sixA a b)).toArray) ∧ Below w.heap.size w w' := by
  have h1 := bl_x16 a b
  have h2 := bl_xa a b
  have hfok : fok (adC (sixA a b)).toArray 17 = true := fok_addr true _ (sixA_ok a b)
  have HL := Lib.hid (adC_length (sixA_ok a b))
  generalize B8 [a, 2, 0, 0, 0, 0, 0, 0, 0, 0, 0, 0, 0, 0, 0, b] = B at h1 h2
  generalize adC (sixA a b) = A at *
  generalize (a.toNat : Int) = x at *
  generalize (b.toNat : Int) = y at *
  have hf : free? (w.alloc (.cells #[.bool false, .int .u8 0, .int .u8 0, .int .u8 0, .int .u8 0, .int .u8 0, .int .u8 0, .int .u8 0, .int .u8 0, .int .u8 0, .int .u8 0, .int .u8 0, .int .u8 0, .int .u8 0, .int .u8 0, .int .u8 0, .int .u8 0] 24)) w.heap.size 0 17 = true := free_made w _ _ 17 (by simp)
  go_enter Tryz.func42, Tryz.ntmps42
  go_upto_region 1 with (fail)
  have H0 := Lib.hid (show Below w.heap.size w (w.alloc (.cells #[.bool false, .int .u8 0, .int .u8 0, .int .u8 0, .int .u8 0, .int .u8 0, .int .u8 0, .int .u8 0, .int .u8 0, .int .u8 0, .int .u8 0, .int .u8 0, .int .u8 0, .int .u8 0, .int .u8 0, .int .u8 0, .int .u8 0] 24)) from (Below.refl _ _).alloc (Nat.le_refl _) _)
  generalize w.alloc (.cells #[.bool false, .int .u8 0, .int .u8 0, .int .u8 0, .int .u8 0, .int .u8 0, .int .u8 0, .int .u8 0, .int .u8 0, .int .u8 0, .int .u8 0, .int .u8 0, .int .u8 0, .int .u8 0, .int .u8 0, .int .u8 0, .int .u8 0] 24) = W at H0 hf ⊢
  repeat (first | go_values | go_skip | go_guarded | go_step | go_upon | go_in)
  have q1 := aggW_row (cs := A) hf HL.out
  exact bodyPost_ret (results_cell Tryz.results42 rfl (ld_some q1 (ldr_addr _ _ _))) rfl ⟨rfl, aggW_below H0.out (Nat.le_refl _) _⟩
end Go.Proofs.YtgpccgcppbdlpaaGreat

/-
  The document's own Good of layer 8: queries.
-/
namespace Go.Proofs.YtgpccgcppbdlpaaGreat
open Go.RowKit
set_option linter.unusedVariables false
set_option linter.unusedSimpArgs false
attribute [local go_sem ↓] ld_addr st_addr bld_addr
attribute [local go_sem] ldr_addr str_addr


end Go.Proofs.YtgpccgcppbdlpaaGreat

/-
  The small living call of the laws on talks of MLD.
-/
namespace Go.Proofs.YtgpccgcppbdlpaaGreat
open Go.RowKit
set_option linter.unusedVariables false
set_option linter.unusedSimpArgs false
attribute [local go_sem ↓] ld_addr st_addr bld_addr ld_tk st_tk bld_tk
attribute [local go_sem] ldr_addr str_addr ldr_tk str_tk

/-- Two talks made later. -/
def TM29 (w W : World) (m1 m2 : Nat) (t1 t2 : TK) (u1 v1 u2 v2 : Value) : Prop := TM w W m1 t1 u1 v1 ∧ TM w W m2 t2 u2 v2
theorem TM29.below {w W W' : World} {m1 m2 : Nat} {t1 t2 : TK} {u1 v1 u2 v2 : Value} (h : TM29 w W m1 m2 t1 t2 u1 v1 u2 v2) (hb : Below W.heap.size W W') : TM29 w W' m1 m2 t1 t2 u1 v1 u2 v2 := ⟨h.1.below hb, h.2.below hb⟩
theorem TM.second9 {w W : World} {m : Nat} {t t2 : TK} {us ur u2 v2 : Value} (h : TM w W m t us ur) (ho : adOk t2.g) (hs : Ads W u2 t2.src) (hr : Rcs W v2 t2.rcs) : TM29 w (aggW (W.alloc (.cells #[.bool false, .int .i64 0, .int .i64 0, .int .i64 0, .bool false, .int .u8 0, .int .u8 0, .int .u8 0, .int .u8 0, .int .u8 0, .int .u8 0, .int .u8 0, .int .u8 0, .int .u8 0, .int .u8 0, .int .u8 0, .int .u8 0, .int .u8 0, .int .u8 0, .int .u8 0, .int .u8 0, .bool false, .int .i64 0, .int .i64 0, .slice none 0 0, .slice none 0 0] 28)) W.heap.size (tkC t2 u2 v2)) m W.heap.size t t2 us ur u2 v2 :=
  ⟨h.below (aggW_below ((Below.refl _ _).alloc (Nat.le_refl _) _) (Nat.le_refl _) _), TM.made h.blw ho hs hr⟩
def liveM : TK := ⟨true, 1, 2, 0, sixA 255 5, false, 0, 0, [], []⟩
theorem liveM_good : good9 liveM = true := by decide
theorem liveM_ok : liveM.ok := ⟨rfl, (fun a (h : a ∈ ([] : List AD)) => nomatch h), (fun r (h : r ∈ ([] : List RC)) => nomatch h)⟩
def liveS : List UInt8 := wr9 (sixA 254 1) (sixA 255 5) liveM
theorem liveS_eq : liveS = wrtM (psM (sixA 254 1) (sixA 255 5) 24) liveM := by
  unfold liveS wr9
  rw [if_pos (by rfl), if_pos liveM_good]
  rfl
theorem liveS_length : liveS.length = 24 := by
  rw [liveS_eq, wrtM_length]
  rfl
theorem liveS_read : rd9 (sixA 254 1) (sixA 255 5) liveS = (liveM, 0) := by
  unfold rd9
  rw [if_pos (by rfl), liveS_length, liveS_eq]
  exact read_wrtM _ (by rw [psM_length (sixA_ok _ _) (sixA_ok _ _)]) liveM liveM_ok liveM_good
theorem liveS_is : isM liveS = true := by
  have h := (wrtM_parts (psM (sixA 254 1) (sixA 255 5) 24) liveM (by decide)).1
  rw [← liveS_eq, show kindM liveM = 131 from rfl] at h
  unfold isM
  rw [liveS_length, h]
  rfl
theorem bldr_tk8 (a : AD) (ho : adOk a) (w : World) : (aggBuild 28 #[(0, .bool true), (1, .int .i64 1), (2, .int .i64 2), (4, .agg (adC a).toArray)]).run Tryz.prog w = .ok (.agg (tkC ⟨true, 1, 2, 0, a, false, 0, 0, [], []⟩ (.slice none 0 0) (.slice none 0 0)).toArray) w := by
  obtain ⟨v, l⟩ := a
  obtain ⟨b0, b1, b2, b3, b4, b5, b6, b7, b8, b9, ba, bb, bc, bd, be, bf, e⟩ := list16 (show l.length = 16 from ho)
  subst e
  exact bld_run _ _ _ (by kernel_rfl) _

set_option maxRecDepth 100000 in
set_option maxHeartbeats 1000000 in
theorem lives9_any (w : World) : Calls Tryz.prog 10 #[] w fun x w' => x = .returned (.bool true) ∧ Below w.heap.size w w' := by
  have HA : Hid (∀ W, Calls Tryz.prog 42 #[.int .u8 254, .int .u8 1] W fun x w' => x = .returned (.agg (adC (sixA 254 1)).toArray) ∧ Below W.heap.size W w') := Lib.hid fun W => lsix_any 254 1 W
  have HB : Hid (∀ W, Calls Tryz.prog 42 #[.int .u8 255, .int .u8 5] W fun x w' => x = .returned (.agg (adC (sixA 255 5)).toArray) ∧ Below W.heap.size W w') := Lib.hid fun W => lsix_any 255 5 W
  have HW : Hid (∀ W m, TM w W m liveM (.slice none 0 0) (.slice none 0 0) → Calls Tryz.prog 7 #[.agg (tkC liveM (.slice none 0 0) (.slice none 0 0)).toArray, .agg (adC (sixA 254 1)).toArray, .agg (adC (sixA 255 5)).toArray] W fun x w' => x = .returned (.tuple #[.string (Str liveS), .int .i64 0]) ∧ Below W.heap.size W w') := Lib.hid fun W m h => by
    have := write9_any (sixA 254 1) (sixA 255 5) (sixA_ok _ _) (sixA_ok _ _) liveM _ _ W liveM_ok h.src h.rcs (by decide)
    rw [show wr9E (sixA 254 1) (sixA 255 5) liveM = 0 by unfold wr9E; rw [if_pos (by rfl), if_pos liveM_good]] at this
    exact this
  have HR : Hid (∀ W, Calls Tryz.prog 11 #[.string (Str liveS), .agg (adC (sixA 254 1)).toArray, .agg (adC (sixA 255 5)).toArray] W fun x w' => ∃ us ur, x = .returned (.tuple #[.agg (tkC liveM us ur).toArray, .int .i64 0]) ∧ Below W.heap.size W w' ∧ Ads w' us [] ∧ Rcs w' ur []) := Lib.hid fun W => by
    have := read9_any (sixA 254 1) (sixA 255 5) (sixA_ok _ _) (sixA_ok _ _) liveS (by rw [liveS_length]; omega) W
    unfold ReadV at this
    rw [liveS_read] at this
    exact this.mono fun x w' ⟨us, ur, h1, h2, h3, h4, h5⟩ => ⟨us, ur, h1, h2, h4.1, h5.rcs⟩
  have HI : Hid (∀ W, Calls Tryz.prog 14 #[.string (Str liveS)] W fun x w' => x = .returned (.bool true) ∧ Below W.heap.size W w') := Lib.hid fun W => by
    have := is9_any liveS (by rw [liveS_length]; omega) W
    rw [liveS_is] at this
    exact this
  have HS : Hid (∀ W ca cb, Tks W ca liveM → Tks W cb liveM → Calls Tryz.prog 13 #[.agg ca.toArray, .agg cb.toArray] W fun x w' => x = .returned (.bool true) ∧ Below W.heap.size W w') := Lib.hid fun W ca cb h1 h2 => by
    have := same_any ca cb liveM liveM W h1 h2
    rw [decide_eq_true rfl] at this
    exact this
  have hsl : (((Str liveS).size : Nat) : Int) = 24 := by rw [Str_size, liveS_length]; rfl
  have hsl2 := Str_size liveS
  have hbk : ∀ W, (aggBuild 28 #[(0, .bool true), (1, .int .i64 1), (2, .int .i64 2), (4, .agg (adC (sixA 255 5)).toArray)]).run Tryz.prog W = .ok (.agg (tkC liveM (.slice none 0 0) (.slice none 0 0)).toArray) W := bldr_tk8 _ (sixA_ok _ _)
  have hfm := hfm26
  have HF0 := Lib.hid (show adOk liveM.g from sixA_ok _ _)
  have hfk : fok (tkC liveM (.slice none 0 0) (.slice none 0 0)).toArray 26 = true := fok_tk HF0.out rfl rfl
  have HSRC := Lib.hid (show liveM.src = [] ∧ liveM.rcs = [] from ⟨rfl, rfl⟩)
  have HLEN := Lib.hid liveS_length
  generalize Str liveS = S at *
  generalize adC (sixA 255 5) = B5 at *
  generalize adC (sixA 254 1) = A1 at *
  generalize liveM = T at *
  have HK : Hid (∀ W m, TM w W m T (.slice none 0 0) (.slice none 0 0) → row? W m 0 26 = some (tkC T (.slice none 0 0) (.slice none 0 0)) ∧ TM w W m T (.slice none 0 0) (.slice none 0 0)) := Lib.hid fun W m h => ⟨h.tk.row, h⟩
  go_enter Tryz.func10, Tryz.ntmps10
  go_upto_region 2 with (go_at_call 42; (with_reducible refine (HB.out _).mono ?_); rintro x w1 ⟨rfl, hb1⟩; have H1 := Lib.hid (TM.made (t := T) (us := (.slice none 0 0)) (ur := (.slice none 0 0)) hb1 HF0.out (by rw [HSRC.out.1]; exact Ads.nil _) (by rw [HSRC.out.2]; exact Rcs.nil _)); clear hb1)
  generalize aggW (w1.alloc (.cells #[.bool false, .int .i64 0, .int .i64 0, .int .i64 0, .bool false, .int .u8 0, .int .u8 0, .int .u8 0, .int .u8 0, .int .u8 0, .int .u8 0, .int .u8 0, .int .u8 0, .int .u8 0, .int .u8 0, .int .u8 0, .int .u8 0, .int .u8 0, .int .u8 0, .int .u8 0, .int .u8 0, .bool false, .int .i64 0, .int .i64 0, .slice none 0 0, .slice none 0 0] 28)) w1.heap.size _ = W2 at H1 ⊢
  generalize w1.heap.size = m1 at H1 ⊢
  clear hbk hfk
  go_region_held3 (fun W => row? W m1 0 26 = some (tkC T (.slice none 0 0) (.slice none 0 0)) ∧ TM w W m1 T (.slice none 0 0) (.slice none 0 0)) (first | assumption | exact HK.out _ _ H1.out | exact HK.out _ _ (H1.out.below (bdrewN (Below.refl _ _) 1))) (first
    | (go_at_call 42; (with_reducible refine (HA.out _).mono ?_); rintro x w3 ⟨rfl, hb3⟩; have hk := HK.out _ _ (TM.below (And.right (by assumption)) hb3); clear hb3)
    | (go_at_call 42; (with_reducible refine (HB.out _).mono ?_); rintro x w3 ⟨rfl, hb3⟩; have hk := HK.out _ _ (TM.below (And.right (by assumption)) hb3); clear hb3)
    | (go_at_call 7; (with_reducible refine (HW.out _ _ (And.right (by assumption))).mono ?_); rintro x w3 ⟨rfl, hb3⟩; have hk := HK.out _ _ (TM.below (And.right (by assumption)) hb3); clear hb3))
  have H2 := Lib.hid hk.2
  clear hk
  go_upto_region 4 with (first
    | (go_at_call 42; (with_reducible refine (HA.out _).mono ?_); rintro x w4 ⟨rfl, hb4⟩; have H4 := Lib.hid (TM.below H2.out hb4); clear hb4)
    | (go_at_call 42; (with_reducible refine (HB.out _).mono ?_); rintro x w5 ⟨rfl, hb5⟩; have H5 := Lib.hid (TM.below H4.out hb5); clear hb5)
    | (go_at_call 11; (with_reducible refine (HR.out _).mono ?_); rintro x w6 ⟨us, ur, rfl, hb6, hs6, hr6⟩; have hs6 : Ads w6 us T.src := (by rw [HSRC.out.1]; exact hs6); have hr6 : Rcs w6 ur T.rcs := (by rw [HSRC.out.2]; exact hr6); have hft := TM.fok HF0.out hs6 hr6; have H6 := Lib.hid ((H5.out.below hb6).second9 HF0.out hs6 hr6); clear hb6 hs6 hr6))
  generalize aggW (w6.alloc (.cells #[.bool false, .int .i64 0, .int .i64 0, .int .i64 0, .bool false, .int .u8 0, .int .u8 0, .int .u8 0, .int .u8 0, .int .u8 0, .int .u8 0, .int .u8 0, .int .u8 0, .int .u8 0, .int .u8 0, .int .u8 0, .int .u8 0, .int .u8 0, .int .u8 0, .int .u8 0, .int .u8 0, .bool false, .int .i64 0, .int .i64 0, .slice none 0 0, .slice none 0 0] 28)) w6.heap.size _ = W7 at H6 ⊢
  generalize w6.heap.size = m2 at H6 ⊢
  clear hft hfm HR HW HA HB
  have K2 : Hid (∀ (W : World) (m1 m2 : Nat) (u1 v1 u2 v2 : Value), TM29 w W m1 m2 T T u1 v1 u2 v2 → row? W m1 0 26 = some (tkC T u1 v1) ∧ row? W m2 0 26 = some (tkC T u2 v2)) := Lib.hid fun W m1 m2 u1 v1 u2 v2 h => ⟨h.1.tk.row, h.2.tk.row⟩
  go_wp2_with (first
    | (go_at_call 14; (with_reducible refine (HI.out _).mono ?_); rintro x w8 ⟨rfl, hb8⟩; have H8 := Lib.hid (H6.out.below hb8); clear hb8; obtain ⟨r1, r2⟩ := K2.out _ _ _ _ _ _ _ H8.out; have HS8 := Lib.hid (HS.out _ _ _ H8.out.1.tks H8.out.2.tks))
    | (go_at_call 13; (with_reducible refine (HS8.out).mono ?_); rintro x w9 ⟨rfl, hb9⟩; have H9 := Lib.hid (H8.out.below hb9); clear hb9))
  go_ret
  exact ⟨rfl, H9.out.1.blw⟩
end Go.Proofs.YtgpccgcppbdlpaaGreat

/-
  The walk of the law MldReads.
-/
namespace Go.Proofs.YtgpccgcppbdlpaaGreat
open Go.RowKit
set_option linter.unusedVariables false
set_option linter.unusedSimpArgs false
attribute [local go_sem ↓] ld_addr st_addr bld_addr ld_tk st_tk bld_tk
attribute [local go_sem] ldr_addr str_addr ldr_tk str_tk

/-- Two addresses boxed first of all. -/
def AB9 (w W : World) (f g : AD) : Prop := ObjAt W w.heap.size (adC f).toArray 24 ∧ ObjAt W (w.heap.size + 1) (adC g).toArray 24 ∧ Below w.heap.size w W
theorem AB9.below {w W W' : World} {f g : AD} (h : AB9 w W f g) (hb : Below W.heap.size W W') : AB9 w W' f g := ⟨h.1.below hb h.1.lt, h.2.1.below hb h.2.1.lt, bstep h.2.2 hb⟩
theorem AB9.made (w : World) (f g : AD) : AB9 w ((w.alloc (.cells (adC f).toArray 24)).alloc (.cells (adC g).toArray 24)) f g := by
  have h1 := ObjAt.made w (adC f).toArray 24
  have h2 := ObjAt.made (w.alloc (.cells (adC f).toArray 24)) (adC g).toArray 24
  rw [show (w.alloc (.cells (adC f).toArray 24)).heap.size = w.heap.size + 1 by simp] at h2
  exact ⟨h1.alloc _, h2, ((Below.refl _ _).alloc (Nat.le_refl _) _).alloc (by simp) _⟩
theorem AB9.c {w W : World} {f g : AD} (h : AB9 w W f g) (hf : adOk f) (hg : adOk g) : row? W w.heap.size 0 17 = some (adC f) ∧ row? W (w.heap.size + 1) 0 17 = some (adC g) ∧ W.cell? ⟨w.heap.size, 0, none⟩ = some (.bool f.1) ∧ W.cell? ⟨w.heap.size + 1, 0, none⟩ = some (.bool g.1) :=
  ⟨obj_rowk (A := []) (M := adC f) (C := []) (by simpa using h.1) rfl (by simp [adC_length hf]), obj_rowk (A := []) (M := adC g) (C := []) (by simpa using h.2.1) rfl (by simp [adC_length hg]), by rw [ObjAt.cell h.1]; rfl, by rw [ObjAt.cell h.2.1]; rfl⟩
end Go.Proofs.YtgpccgcppbdlpaaGreat

/-
  The law's own copies of addresses, somewhat cut.
-/
namespace Go.Proofs.YtgpccgcppbdlpaaGreat
open Go.RowKit
set_option linter.unusedVariables false
attribute [local go_sem ↓] ld_addr st_addr bld_addr adsLit_eq
attribute [local go_sem] ldr_addr str_addr

theorem adsC_take {l : List AD} {k : Nat} (h : k < l.length) : adsC (l.take (k + 1)) = adsC (l.take k) ++ adC l[k] := by
  unfold adsC
  rw [List.take_succ_eq_append_getElem h, List.map_append, List.flatten_append]
  simp
theorem own_len {w : World} {base : Nat} {e : TypeId} {size n k : Nat} {v : Value} {xs : List Value} (h : w.ownsRow base e size v n xs) (hk : n = k) : w.ownsRow base e size v k xs := by subst hk; exact h
end Go.Proofs.YtgpccgcppbdlpaaGreat

/-
  The law's own copies of records, somewhat cut.
-/
namespace Go.Proofs.YtgpccgcppbdlpaaGreat
open Go.RowKit
set_option linter.unusedVariables false
attribute [local go_sem ↓] ld_addr st_addr bld_addr ld_rec st_rec bld_rec rcsLit_eq
attribute [local go_sem] ldr_addr str_addr ldr_rec str_rec

/-- A record, somewhat cut. -/
def cutR (r : RC) : RC := ⟨r.kind, r.g, r.src.take 6⟩
theorem cut_succ {l : List RC} {k : Nat} (h : k < l.length) : (l.take (k + 1)).map cutR = (l.take k).map cutR ++ [cutR l[k]] := by
  rw [List.take_succ_eq_append_getElem h, List.map_append]; simp
end Go.Proofs.YtgpccgcppbdlpaaGreat

/-
  The law's own copy of a talk, somewhat cut.
-/
namespace Go.Proofs.YtgpccgcppbdlpaaGreat
open Go.RowKit
set_option linter.unusedVariables false
set_option linter.unusedSimpArgs false
attribute [local go_sem ↓] ld_addr st_addr bld_addr ld_tk st_tk bld_tk
attribute [local go_sem] ldr_addr str_addr ldr_tk str_tk

/-- A talk, somewhat cut. -/
def fewT (t : TK) : TK := ⟨t.v6, t.ver, t.kind, t.resp, t.g, t.quiet, t.rob, t.every, t.src.take 6, (t.rcs.take 6).map cutR⟩
/-- The talk boxed, the result's cell behind it. -/
def FT (w W : World) (t : TK) (us ur : Value) : Prop := TkAt W w.heap.size t us ur ∧ ObjAt W (w.heap.size + 1) #[.bool false, .int .i64 0, .int .i64 0, .int .i64 0, .bool false, .int .u8 0, .int .u8 0, .int .u8 0, .int .u8 0, .int .u8 0, .int .u8 0, .int .u8 0, .int .u8 0, .int .u8 0, .int .u8 0, .int .u8 0, .int .u8 0, .int .u8 0, .int .u8 0, .int .u8 0, .int .u8 0, .bool false, .int .i64 0, .int .i64 0, .slice none 0 0, .slice none 0 0] 28 ∧ Below w.heap.size w W
theorem FT.made (w : World) (t : TK) (us ur : Value) (h : adOk t.g) : FT w ((w.alloc (.cells (tkC t us ur).toArray 28)).alloc (.cells #[.bool false, .int .i64 0, .int .i64 0, .int .i64 0, .bool false, .int .u8 0, .int .u8 0, .int .u8 0, .int .u8 0, .int .u8 0, .int .u8 0, .int .u8 0, .int .u8 0, .int .u8 0, .int .u8 0, .int .u8 0, .int .u8 0, .int .u8 0, .int .u8 0, .int .u8 0, .int .u8 0, .bool false, .int .i64 0, .int .i64 0, .slice none 0 0, .slice none 0 0] 28)) t us ur := by
  have s1 : (w.alloc (.cells (tkC t us ur).toArray 28)).heap.size = w.heap.size + 1 := by simp
  have h1 := ObjAt.made (w.alloc (.cells (tkC t us ur).toArray 28)) #[.bool false, .int .i64 0, .int .i64 0, .int .i64 0, .bool false, .int .u8 0, .int .u8 0, .int .u8 0, .int .u8 0, .int .u8 0, .int .u8 0, .int .u8 0, .int .u8 0, .int .u8 0, .int .u8 0, .int .u8 0, .int .u8 0, .int .u8 0, .int .u8 0, .int .u8 0, .int .u8 0, .bool false, .int .i64 0, .int .i64 0, .slice none 0 0, .slice none 0 0] 28
  rw [s1] at h1
  exact ⟨⟨ObjAt.alloc (TkAt.made w t us ur h).1 _, h⟩, h1, ((Below.refl _ _).alloc (Nat.le_refl _) _).alloc (by simp) _⟩
theorem FT.below {w W W' : World} {t : TK} {us ur : Value} (h : FT w W t us ur) (hb : Below W.heap.size W W') : FT w W' t us ur := ⟨h.1.below hb, h.2.1.below hb h.2.1.lt, bstep h.2.2 hb⟩
theorem FT.set {w W : World} {t t' : TK} {us ur us' ur' : Value} (h : FT w W t us ur) (j : Nat) (v : Value) (e : (tkC t us ur).set j v = tkC t' us' ur') (ho : adOk t'.g) : FT w (W.setCell ⟨w.heap.size, j, none⟩ v) t' us' ur' := by
  have h1 : ObjAt (W.setCell ⟨w.heap.size, j, none⟩ v) w.heap.size (tkC t' us' ur').toArray 28 := by
    have := ObjAt.set h.1.1 j v
    rw [List.setIfInBounds_toArray, e] at this
    exact this
  exact ⟨⟨h1, ho⟩, h.2.1.other _ _ (by simp), h.2.2.setCell (p := ⟨w.heap.size, j, none⟩) (Nat.le_refl _) v⟩
theorem FT.c {w W : World} {t : TK} {us ur : Value} (h : FT w W t us ur) : W.cell? ⟨w.heap.size, 24, none⟩ = some us ∧ W.cell? ⟨w.heap.size, 25, none⟩ = some ur ∧ (∀ j, W.frozen? ⟨w.heap.size, j, none⟩ = false) := ⟨h.1.us, h.1.ur, fun j => ObjAt.free h.1.1 j⟩
theorem FT.done {w W : World} {t : TK} {us ur : Value} (h : FT w W t us ur) (hs : AdsT W us t.src) (hr : RcT W ur t.rcs) :
    row? (aggW W (w.heap.size + 1) (tkC t us ur)) (w.heap.size + 1) 0 26 = some (tkC t us ur) ∧ Below w.heap.size w (aggW W (w.heap.size + 1) (tkC t us ur)) ∧ AdsT (aggW W (w.heap.size + 1) (tkC t us ur)) us t.src ∧ RcT (aggW W (w.heap.size + 1) (tkC t us ur)) ur t.rcs :=
  ⟨aggW_row (obj_free h.2.1 (by simp)) (tkC_length h.1.2 _ _), aggW_below h.2.2 (by omega) _, hs.grown h.2.1 (aggW_grown _ _ _), hr.grown h.2.1 (aggW_grown _ _ _)⟩
theorem fewT_ok {t : TK} (h : t.ok) : (fewT t).ok := by
  obtain ⟨h1, h2, h3⟩ := h
  refine ⟨h1, fun a ha => h2 a (List.mem_of_mem_take ha), fun r hr => ?_⟩
  obtain ⟨x, hx, rfl⟩ := List.mem_map.1 hr
  obtain ⟨g1, g2⟩ := h3 x (List.mem_of_mem_take hx)
  exact ⟨g1, fun a ha => g2 a (List.mem_of_mem_take ha)⟩
theorem fewT_len (t : TK) : (fewT t).rcs.length ≤ 6 := by
  show ((t.rcs.take 6).map cutR).length ≤ 6
  rw [List.length_map, List.length_take]; omega
end Go.Proofs.YtgpccgcppbdlpaaGreat

/-
  The walk of the law MldWrites.
-/
namespace Go.Proofs.YtgpccgcppbdlpaaGreat
open Go.RowKit
set_option linter.unusedVariables false
set_option linter.unusedSimpArgs false
attribute [local go_sem ↓] ld_addr st_addr bld_addr ld_tk st_tk bld_tk
attribute [local go_sem] ldr_addr str_addr ldr_tk str_tk

def FN9 (W : World) (t : TK) (u r : Value) : Prop := Ads W u t.src ∧ Rcs W r t.rcs
theorem FN9.below {W W' : World} {t : TK} {u r : Value} (h : FN9 W t u r) (hb : Below W.heap.size W W') : FN9 W' t u r := ⟨h.1.below hb, h.2.below hb⟩
/-- The talk and its addresses boxed, with the talk's slices. -/
structure BZ (w W : World) (f g : AD) (t : TK) (u r : Value) : Prop where
  b : TB9 w W f g t u r
  src : AdsT W u t.src
  rcs : RcT W r t.rcs
  hf : adOk f
  hg : adOk g
theorem BZ.below {w W W' : World} {f g : AD} {t : TK} {u r : Value} (h : BZ w W f g t u r) (hb : Below W.heap.size W W') : BZ w W' f g t u r := ⟨h.b.keep hb, h.src.below hb, h.rcs.below hb, h.hf, h.hg⟩
theorem BZ.drewN {w W : World} {f g : AD} {t : TK} {u r : Value} (h : BZ w W f g t u r) (d : Nat) : BZ w (W.drewN d) f g t u r := h.below (bdrewN (Below.refl _ _) d)
theorem BZ.s {w W : World} {f g : AD} {t : TK} {u r : Value} (h : BZ w W f g t u r) : row? W w.heap.size 0 26 = some (tkC t u r) ∧ row? W (w.heap.size + 1) 0 17 = some (adC f) ∧ row? W (w.heap.size + 2) 0 17 = some (adC g) := ⟨h.b.1.row, h.b.rows h.hf h.hg⟩
theorem BZ.v {w W : World} {f g : AD} {t : TK} {u r : Value} (h : BZ w W f g t u r) : W.cell? ⟨w.heap.size + 1, 0, none⟩ = some (.bool f.1) ∧ W.cell? ⟨w.heap.size + 2, 0, none⟩ = some (.bool g.1) := ⟨by rw [ObjAt.cell h.b.2.1]; rfl, by rw [ObjAt.cell h.b.2.2.1]; rfl⟩
/-- Beside it a block for a talk. -/
def BA (w W : World) (f g : AD) (t : TK) (u r : Value) (m : Nat) : Prop := BZ w W f g t u r ∧ ObjAt W m #[.bool false, .int .i64 0, .int .i64 0, .int .i64 0, .bool false, .int .u8 0, .int .u8 0, .int .u8 0, .int .u8 0, .int .u8 0, .int .u8 0, .int .u8 0, .int .u8 0, .int .u8 0, .int .u8 0, .int .u8 0, .int .u8 0, .int .u8 0, .int .u8 0, .int .u8 0, .int .u8 0, .bool false, .int .i64 0, .int .i64 0, .slice none 0 0, .slice none 0 0] 28 ∧ w.heap.size + 2 < m
theorem BA.below {w W W' : World} {f g : AD} {t : TK} {u r : Value} {m : Nat} (h : BA w W f g t u r m) (hb : Below W.heap.size W W') : BA w W' f g t u r m := ⟨h.1.below hb, h.2.1.below hb h.2.1.lt, h.2.2⟩
theorem BA.free {w W : World} {f g : AD} {t : TK} {u r : Value} {m : Nat} (h : BA w W f g t u r m) : free? W m 0 26 = true := obj_free h.2.1 (by simp)
theorem BA.put {w W : World} {f g : AD} {t t' : TK} {u r u' r' : Value} {m : Nat} (h : BA w W f g t u r m) (ho : adOk t'.g) (hs : AdsT W u' t'.src) (hr : RcT W r' t'.rcs) : TM w (aggW W m (tkC t' u' r')) m t' u' r' ∧ BZ w (aggW W m (tkC t' u' r')) f g t u r := by
  obtain ⟨h1, h2, h3⟩ := h
  have hgr := aggW_grown W m (tkC t' u' r')
  refine ⟨⟨⟨aggW_obj (L := (#[.bool false, .int .i64 0, .int .i64 0, .int .i64 0, .bool false, .int .u8 0, .int .u8 0, .int .u8 0, .int .u8 0, .int .u8 0, .int .u8 0, .int .u8 0, .int .u8 0, .int .u8 0, .int .u8 0, .int .u8 0, .int .u8 0, .int .u8 0, .int .u8 0, .int .u8 0, .int .u8 0, .bool false, .int .i64 0, .int .i64 0, .slice none 0 0, .slice none 0 0] : Array Value).toList) (by simpa using h2) (by rw [tkC_length ho]; rfl) (tkC_one hs.1.one hr.rcs.one), ho⟩, (hs.grown h2 hgr).1, (hr.grown h2 hgr).rcs, aggW_below h1.b.2.2.2 (by omega) _, by omega⟩, ?_⟩
  exact ⟨⟨⟨aggW_other h1.b.1.1 _ (by omega), h1.b.1.2⟩, aggW_other h1.b.2.1 _ (by omega), aggW_other h1.b.2.2.1 _ (by omega), aggW_below h1.b.2.2.2 (by omega) _⟩, h1.src.grown h2 hgr, h1.rcs.grown h2 hgr, h1.hf, h1.hg⟩
theorem TB9.few {w W : World} {f g : AD} {t t' : TK} {us ur u r : Value} (h : TB9 w W f g t us ur) (hf : adOk f) (hg : adOk g) (ho : adOk t'.g) (hs : AdsT W u t'.src) (hr : RcT W r t'.rcs) : BZ w (aggW W w.heap.size (tkC t' u r)) f g t' u r := by
  have hgr := aggW_grown W w.heap.size (tkC t' u r)
  exact ⟨⟨⟨aggW_obj h.1.1 (by rw [tkC_length ho, tkC_length h.1.2]) (tkC_one hs.1.one hr.rcs.one), ho⟩, aggW_other h.2.1 _ (by omega), aggW_other h.2.2.1 _ (by omega), aggW_below h.2.2.2 (Nat.le_refl _) _⟩, hs.grown h.1.1 hgr, hr.grown h.1.1 hgr, hf, hg⟩
theorem TB9.free {w W : World} {f g : AD} {t : TK} {us ur : Value} (h : TB9 w W f g t us ur) : free? W w.heap.size 0 26 = true := obj_free h.1.1 (by simp [tkC_length h.1.2])
theorem wrtM_le (P : List UInt8) (t : TK) (ho : t.ok) (hg : good9 t = true) : (wrtM P t).length ≤ 100000 := by
  have hb := adB_le ho.1
  have hR : (restM t).length ≤ 90000 := by
    unfold restM
    split
    · rename_i h
      obtain ⟨_, k | k | k | k⟩ := good9_cases t hg
      · obtain ⟨_, _, _, _, k5, k6, _⟩ := k
        have key : ∀ (q : List RC), (∀ r ∈ q, (recB r).length ≤ 1100) → ((q.map recB).flatten).length ≤ 1100 * q.length := by
          intro q
          induction q with
          | nil => intro _; simp
          | cons r q ih =>
            intro h
            have h1 := h r (by simp)
            have h2 := ih (fun x hx => h x (by simp [hx]))
            simp at h2 ⊢
            omega
        have h5 := key t.rcs fun r hr => by
          rw [List.all_eq_true] at k5
          obtain ⟨_, _, a3⟩ := recOk9_parts (k5 r hr)
          obtain ⟨g1, g2⟩ := ho.2.2 r hr
          have e1 := adB_le g1
          have e2 := listL_le g2
          unfold recB
          simp [putL_length]
          omega
        rw [List.length_append, putL_length]
        omega
      · omega
      · omega
      · omega
    · have hl : t.src.length ≤ 70 := by
        obtain ⟨_, k | k | k | k⟩ := good9_cases t hg
        · rw [k.2.2.2.2.2.2.2.2.2.2]; simp
        · rw [k.2.2.2.2.2.2.2.2]; simp
        · rw [k.2.2.2.2.2.2.2.2.2]; simp
        · have := srcs9_len k.2.2.2.2.2.2.1; omega
      have := listL_le ho.2.1
      split
      · simp [putL_length]; omega
      · simp [putL_length]; omega
  rw [wrtM_length]
  omega

end Go.Proofs.YtgpccgcppbdlpaaGreat

