/-
  Texts joined: MkP, MlS, TkI, MkL.
-/
import Derived.Test.YtgpccgcppbdlpaaGreatMgZ
import Derived.Test.YtgpccgcppbdlpaaGreatMgH
import Derived.Test.YtgpccgcppbdlpaaGreatMg27
import Derived.Test.YtgpccgcppbdlpaaGreatMg10
import Derived.Deep.RegionHeld3
/-
  The contracts of package mld.
-/
namespace Go.Proofs.YtgpccgcppbdlpaaGreat
open Go.RowKit
set_option linter.unusedVariables false
theorem write9_any (f g : AD) (hf : adOk f) (hg : adOk g) (t : TK) (us ur : Value) (w : World) (ho : t.ok) (hs : Ads w us t.src) (hr : Rcs w ur t.rcs) (hL : t.rcs.length ≤ 1000) : Calls Tryz.prog 7 #[.agg (tkC t us ur).toArray, .agg (adC f).toArray, .agg (adC g).toArray] w fun x w' => x = .returned (.tuple #[.string (Str (wr9 f g t)), .int .i64 (wr9E f g t)]) ∧ Below w.heap.size w w' :=
  write9_core f g hf hg t us ur w ho hs hr hL _ _ rfl rfl
end Go.Proofs.YtgpccgcppbdlpaaGreat

/-
  The law's six.
-/
namespace Go.Proofs.YtgpccgcppbdlpaaGreat
open Go.RowKit
set_option linter.unusedVariables false
attribute [local go_sem ↓] ld_addr st_addr bld_addr bld_b16
attribute [local go_sem] ldr_addr str_addr

def sixA (a b : UInt8) : AD := (true, [a, 2, 0, 0, 0, 0, 0, 0, 0, 0, 0, 0, 0, 0, 0, b])
theorem sixA_ok (a b : UInt8) : adOk (sixA a b) := rfl
theorem bl_x16 (a b : UInt8) (w : World) : (aggBuild 22 #[(0, .int .u8 a.toNat), (1, .int .u8 2), (15, .int .u8 b.toNat)]).run Tryz.prog w = .ok (.agg (B8 [a, 2, 0, 0, 0, 0, 0, 0, 0, 0, 0, 0, 0, 0, 0, b]).toArray) w := bld_run _ _ _ (by kernel_rfl) _
theorem bl_xa (a b : UInt8) (w : World) : (aggBuild 24 #[(0, .bool true), (1, .agg (B8 [a, 2, 0, 0, 0, 0, 0, 0, 0, 0, 0, 0, 0, 0, 0, b]).toArray)]).run Tryz.prog w = .ok (.agg (adC (sixA a b)).toArray) w := bld_run _ _ _ (by kernel_rfl) _
set_option maxRecDepth 100000 in
theorem lsix_any (a b : UInt8) (w : World) : Calls Tryz.prog 42 #[.int .u8 a.toNat, .int .u8 b.toNat] w fun x w' => x = .returned (.agg (adC (sixA a b)).toArray) ∧ Below w.heap.size w w' := by
  have h1 := bl_x16 a b
  have h2 := bl_xa a b
  have hfok : fok (adC (sixA a b)).toArray 17 = true := fok_addr true _ (sixA_ok a b)
  have HL := Lib.hid (adC_length (sixA_ok a b))
  generalize B8 [a, 2, 0, 0, 0, 0, 0, 0, 0, 0, 0, 0, 0, 0, 0, b] = B at h1 h2
  generalize adC (sixA a b) = A at *
  generalize (a.toNat : Int) = x at *
  generalize (b.toNat : Int) = y at *
  have hf : free? (w.alloc (.cells #[.bool false, .int .u8 0, .int .u8 0, .int .u8 0, .int .u8 0, .int .u8 0, .int .u8 0, .int .u8 0, .int .u8 0, .int .u8 0, .int .u8 0, .int .u8 0, .int .u8 0, .int .u8 0, .int .u8 0, .int .u8 0, .int .u8 0] 24)) w.heap.size 0 17 = true := free_made w _ _ 17 (by simp)
  go_enter Tryz.func42, Tryz.ntmps42
  go_upto_region 1 with (fail)
  have H0 := Lib.hid (show Below w.heap.size w (w.alloc (.cells #[.bool false, .int .u8 0, .int .u8 0, .int .u8 0, .int .u8 0, .int .u8 0, .int .u8 0, .int .u8 0, .int .u8 0, .int .u8 0, .int .u8 0, .int .u8 0, .int .u8 0, .int .u8 0, .int .u8 0, .int .u8 0, .int .u8 0] 24)) from (Below.refl _ _).alloc (Nat.le_refl _) _)
  generalize w.alloc (.cells #[.bool false, .int .u8 0, .int .u8 0, .int .u8 0, .int .u8 0, .int .u8 0, .int .u8 0, .int .u8 0, .int .u8 0, .int .u8 0, .int .u8 0, .int .u8 0, .int .u8 0, .int .u8 0, .int .u8 0, .int .u8 0, .int .u8 0] 24) = W at H0 hf ⊢
  repeat (first | go_values | go_skip | go_guarded | go_step | go_upon | go_in)
  have q1 := aggW_row (cs := A) hf HL.out
  exact bodyPost_ret (results_cell Tryz.results42 rfl (ld_some q1 (ldr_addr _ _ _))) rfl ⟨rfl, aggW_below H0.out (Nat.le_refl _) _⟩
end Go.Proofs.YtgpccgcppbdlpaaGreat

/-
  The document's own Good of layer 8: queries.
-/
namespace Go.Proofs.YtgpccgcppbdlpaaGreat
open Go.RowKit
set_option linter.unusedVariables false
set_option linter.unusedSimpArgs false
attribute [local go_sem ↓] ld_addr st_addr bld_addr
attribute [local go_sem] ldr_addr str_addr


end Go.Proofs.YtgpccgcppbdlpaaGreat

/-
  The small living call of the laws on talks of MLD.
-/
namespace Go.Proofs.YtgpccgcppbdlpaaGreat
open Go.RowKit
set_option linter.unusedVariables false
set_option linter.unusedSimpArgs false
attribute [local go_sem ↓] ld_addr st_addr bld_addr ld_tk st_tk bld_tk
attribute [local go_sem] ldr_addr str_addr ldr_tk str_tk

/-- Two talks made later. -/
def TM29 (w W : World) (m1 m2 : Nat) (t1 t2 : TK) (u1 v1 u2 v2 : Value) : Prop := TM w W m1 t1 u1 v1 ∧ TM w W m2 t2 u2 v2
theorem TM29.below {w W W' : World} {m1 m2 : Nat} {t1 t2 : TK} {u1 v1 u2 v2 : Value} (h : TM29 w W m1 m2 t1 t2 u1 v1 u2 v2) (hb : Below W.heap.size W W') : TM29 w W' m1 m2 t1 t2 u1 v1 u2 v2 := ⟨h.1.below hb, h.2.below hb⟩
theorem TM.second9 {w W : World} {m : Nat} {t t2 : TK} {us ur u2 v2 : Value} (h : TM w W m t us ur) (ho : adOk t2.g) (hs : Ads W u2 t2.src) (hr : Rcs W v2 t2.rcs) : TM29 w (aggW (W.alloc (.cells #[.bool false, .int .i64 0, .int .i64 0, .int .i64 0, .bool false, .int .u8 0, .int .u8 0, .int .u8 0, .int .u8 0, .int .u8 0, .int .u8 0, .int .u8 0, .int .u8 0, .int .u8 0, .int .u8 0, .int .u8 0, .int .u8 0, .int .u8 0, .int .u8 0, .int .u8 0, .int .u8 0, .bool false, .int .i64 0, .int .i64 0, .slice none 0 0, .slice none 0 0] 28)) W.heap.size (tkC t2 u2 v2)) m W.heap.size t t2 us ur u2 v2 :=
  ⟨h.below (aggW_below ((Below.refl _ _).alloc (Nat.le_refl _) _) (Nat.le_refl _) _), TM.made h.blw ho hs hr⟩
def liveM : TK := ⟨true, 1, 2, 0, sixA 255 5, false, 0, 0, [], []⟩
theorem liveM_good : good9 liveM = true := by decide
theorem liveM_ok : liveM.ok := ⟨rfl, (fun a (h : a ∈ ([] : List AD)) => nomatch h), (fun r (h : r ∈ ([] : List RC)) => nomatch h)⟩
def liveS : List UInt8 := wr9 (sixA 254 1) (sixA 255 5) liveM
theorem liveS_eq : liveS = wrtM (psM (sixA 254 1) (sixA 255 5) 24) liveM := by
  unfold liveS wr9
  rw [if_pos (by rfl), if_pos liveM_good]
  rfl
theorem liveS_length : liveS.length = 24 := by
  rw [liveS_eq, wrtM_length]
  rfl
theorem liveS_read : rd9 (sixA 254 1) (sixA 255 5) liveS = (liveM, 0) := by
  unfold rd9
  rw [if_pos (by rfl), liveS_length, liveS_eq]
  exact read_wrtM _ (by rw [psM_length (sixA_ok _ _) (sixA_ok _ _)]) liveM liveM_ok liveM_good
theorem liveS_is : isM liveS = true := by
  have h := (wrtM_parts (psM (sixA 254 1) (sixA 255 5) 24) liveM (by decide)).1
  rw [← liveS_eq, show kindM liveM = 131 from rfl] at h
  unfold isM
  rw [liveS_length, h]
  rfl
theorem bldr_tk8 (a : AD) (ho : adOk a) (w : World) : (aggBuild 28 #[(0, .bool true), (1, .int .i64 1), (2, .int .i64 2), (4, .agg (adC a).toArray)]).run Tryz.prog w = .ok (.agg (tkC ⟨true, 1, 2, 0, a, false, 0, 0, [], []⟩ (.slice none 0 0) (.slice none 0 0)).toArray) w := by
  obtain ⟨v, l⟩ := a
  obtain ⟨b0, b1, b2, b3, b4, b5, b6, b7, b8, b9, ba, bb, bc, bd, be, bf, e⟩ := list16 (show l.length = 16 from ho)
  subst e
  exact bld_run _ _ _ (by kernel_rfl) _

set_option maxRecDepth 100000 in
set_option maxHeartbeats 1000000 in
theorem lives9_any (w : World) : Calls Tryz.prog 10 #[] w fun x w' => x = .returned (.bool true) ∧ Below w.heap.size w w' := by
  have HA : Hid (∀ W, Calls Tryz.prog 42 #[.int .u8 254, .int .u8 1] W fun x w' => x = .returned (.agg (adC (sixA 254 1)).toArray) ∧ Below W.heap.size W w') := Lib.hid fun W => lsix_any 254 1 W
  have HB : Hid (∀ W, Calls Tryz.prog 42 #[.int .u8 255, .int .u8 5] W fun x w' => x = .returned (.agg (adC (sixA 255 5)).toArray) ∧ Below W.heap.size W w') := Lib.hid fun W => lsix_any 255 5 W
  have HW : Hid (∀ W m, TM w W m liveM (.slice none 0 0) (.slice none 0 0) → Calls Tryz.prog 7 #[.agg (tkC liveM (.slice none 0 0) (.slice none 0 0)).toArray, .agg (adC (sixA 254 1)).toArray, .agg (adC (sixA 255 5)).toArray] W fun x w' => x = .returned (.tuple #[.string (Str liveS), .int .i64 0]) ∧ Below W.heap.size W w') := Lib.hid fun W m h => by
    have := write9_any (sixA 254 1) (sixA 255 5) (sixA_ok _ _) (sixA_ok _ _) liveM _ _ W liveM_ok h.src h.rcs (by decide)
    rw [show wr9E (sixA 254 1) (sixA 255 5) liveM = 0 by unfold wr9E; rw [if_pos (by rfl), if_pos liveM_good]] at this
    exact this
  have HR : Hid (∀ W, Calls Tryz.prog 11 #[.string (Str liveS), .agg (adC (sixA 254 1)).toArray, .agg (adC (sixA 255 5)).toArray] W fun x w' => ∃ us ur, x = .returned (.tuple #[.agg (tkC liveM us ur).toArray, .int .i64 0]) ∧ Below W.heap.size W w' ∧ Ads w' us [] ∧ Rcs w' ur []) := Lib.hid fun W => by
    have := read9_any (sixA 254 1) (sixA 255 5) (sixA_ok _ _) (sixA_ok _ _) liveS (by rw [liveS_length]; omega) W
    unfold ReadV at this
    rw [liveS_read] at this
    exact this.mono fun x w' ⟨us, ur, h1, h2, h3, h4, h5⟩ => ⟨us, ur, h1, h2, h4.1, h5.rcs⟩
  have HI : Hid (∀ W, Calls Tryz.prog 14 #[.string (Str liveS)] W fun x w' => x = .returned (.bool true) ∧ Below W.heap.size W w') := Lib.hid fun W => by
    have := is9_any liveS (by rw [liveS_length]; omega) W
    rw [liveS_is] at this
    exact this
  have HS : Hid (∀ W ca cb, Tks W ca liveM → Tks W cb liveM → Calls Tryz.prog 13 #[.agg ca.toArray, .agg cb.toArray] W fun x w' => x = .returned (.bool true) ∧ Below W.heap.size W w') := Lib.hid fun W ca cb h1 h2 => by
    have := same_any ca cb liveM liveM W h1 h2
    rw [decide_eq_true rfl] at this
    exact this
  have hsl : (((Str liveS).size : Nat) : Int) = 24 := by rw [Str_size, liveS_length]; rfl
  have hsl2 := Str_size liveS
  have hbk : ∀ W, (aggBuild 28 #[(0, .bool true), (1, .int .i64 1), (2, .int .i64 2), (4, .agg (adC (sixA 255 5)).toArray)]).run Tryz.prog W = .ok (.agg (tkC liveM (.slice none 0 0) (.slice none 0 0)).toArray) W := bldr_tk8 _ (sixA_ok _ _)
  have hfm := hfm26
  have HF0 := Lib.hid (show adOk liveM.g from sixA_ok _ _)
  have hfk : fok (tkC liveM (.slice none 0 0) (.slice none 0 0)).toArray 26 = true := fok_tk HF0.out rfl rfl
  have HSRC := Lib.hid (show liveM.src = [] ∧ liveM.rcs = [] from ⟨rfl, rfl⟩)
  have HLEN := Lib.hid liveS_length
  generalize Str liveS = S at *
  generalize adC (sixA 255 5) = B5 at *
  generalize adC (sixA 254 1) = A1 at *
  generalize liveM = T at *
  have HK : Hid (∀ W m, TM w W m T (.slice none 0 0) (.slice none 0 0) → row? W m 0 26 = some (tkC T (.slice none 0 0) (.slice none 0 0)) ∧ TM w W m T (.slice none 0 0) (.slice none 0 0)) := Lib.hid fun W m h => ⟨h.tk.row, h⟩
  go_enter Tryz.func10, Tryz.ntmps10
  go_upto_region 2 with (go_at_call 42; (with_reducible refine (HB.out _).mono ?_); rintro x w1 ⟨rfl, hb1⟩; have H1 := Lib.hid (TM.made (t := T) (us := (.slice none 0 0)) (ur := (.slice none 0 0)) hb1 HF0.out (by rw [HSRC.out.1]; exact Ads.nil _) (by rw [HSRC.out.2]; exact Rcs.nil _)); clear hb1)
  generalize aggW (w1.alloc (.cells #[.bool false, .int .i64 0, .int .i64 0, .int .i64 0, .bool false, .int .u8 0, .int .u8 0, .int .u8 0, .int .u8 0, .int .u8 0, .int .u8 0, .int .u8 0, .int .u8 0, .int .u8 0, .int .u8 0, .int .u8 0, .int .u8 0, .int .u8 0, .int .u8 0, .int .u8 0, .int .u8 0, .bool false, .int .i64 0, .int .i64 0, .slice none 0 0, .slice none 0 0] 28)) w1.heap.size _ = W2 at H1 ⊢
  generalize w1.heap.size = m1 at H1 ⊢
  clear hbk hfk
  go_region_held3 (fun W => row? W m1 0 26 = some (tkC T (.slice none 0 0) (.slice none 0 0)) ∧ TM w W m1 T (.slice none 0 0) (.slice none 0 0)) (first | assumption | exact HK.out _ _ H1.out | exact HK.out _ _ (H1.out.below (bdrewN (Below.refl _ _) 1))) (first
    | (go_at_call 42; (with_reducible refine (HA.out _).mono ?_); rintro x w3 ⟨rfl, hb3⟩; have hk := HK.out _ _ (TM.below (And.right (by assumption)) hb3); clear hb3)
    | (go_at_call 42; (with_reducible refine (HB.out _).mono ?_); rintro x w3 ⟨rfl, hb3⟩; have hk := HK.out _ _ (TM.below (And.right (by assumption)) hb3); clear hb3)
    | (go_at_call 7; (with_reducible refine (HW.out _ _ (And.right (by assumption))).mono ?_); rintro x w3 ⟨rfl, hb3⟩; have hk := HK.out _ _ (TM.below (And.right (by assumption)) hb3); clear hb3))
  have H2 := Lib.hid hk.2
  clear hk
  go_upto_region 4 with (first
    | (go_at_call 42; (with_reducible refine (HA.out _).mono ?_); rintro x w4 ⟨rfl, hb4⟩; have H4 := Lib.hid (TM.below H2.out hb4); clear hb4)
    | (go_at_call 42; (with_reducible refine (HB.out _).mono ?_); rintro x w5 ⟨rfl, hb5⟩; have H5 := Lib.hid (TM.below H4.out hb5); clear hb5)
    | (go_at_call 11; (with_reducible refine (HR.out _).mono ?_); rintro x w6 ⟨us, ur, rfl, hb6, hs6, hr6⟩; have hs6 : Ads w6 us T.src := (by rw [HSRC.out.1]; exact hs6); have hr6 : Rcs w6 ur T.rcs := (by rw [HSRC.out.2]; exact hr6); have hft := TM.fok HF0.out hs6 hr6; have H6 := Lib.hid ((H5.out.below hb6).second9 HF0.out hs6 hr6); clear hb6 hs6 hr6))
  generalize aggW (w6.alloc (.cells #[.bool false, .int .i64 0, .int .i64 0, .int .i64 0, .bool false, .int .u8 0, .int .u8 0, .int .u8 0, .int .u8 0, .int .u8 0, .int .u8 0, .int .u8 0, .int .u8 0, .int .u8 0, .int .u8 0, .int .u8 0, .int .u8 0, .int .u8 0, .int .u8 0, .int .u8 0, .int .u8 0, .bool false, .int .i64 0, .int .i64 0, .slice none 0 0, .slice none 0 0] 28)) w6.heap.size _ = W7 at H6 ⊢
  generalize w6.heap.size = m2 at H6 ⊢
  clear hft hfm HR HW HA HB
  have K2 : Hid (∀ (W : World) (m1 m2 : Nat) (u1 v1 u2 v2 : Value), TM29 w W m1 m2 T T u1 v1 u2 v2 → row? W m1 0 26 = some (tkC T u1 v1) ∧ row? W m2 0 26 = some (tkC T u2 v2)) := Lib.hid fun W m1 m2 u1 v1 u2 v2 h => ⟨h.1.tk.row, h.2.tk.row⟩
  go_wp2_with (first
    | (go_at_call 14; (with_reducible refine (HI.out _).mono ?_); rintro x w8 ⟨rfl, hb8⟩; have H8 := Lib.hid (H6.out.below hb8); clear hb8; obtain ⟨r1, r2⟩ := K2.out _ _ _ _ _ _ _ H8.out; have HS8 := Lib.hid (HS.out _ _ _ H8.out.1.tks H8.out.2.tks))
    | (go_at_call 13; (with_reducible refine (HS8.out).mono ?_); rintro x w9 ⟨rfl, hb9⟩; have H9 := Lib.hid (H8.out.below hb9); clear hb9))
  go_ret
  exact ⟨rfl, H9.out.1.blw⟩
end Go.Proofs.YtgpccgcppbdlpaaGreat

