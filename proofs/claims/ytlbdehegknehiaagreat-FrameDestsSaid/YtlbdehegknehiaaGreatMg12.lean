/-
  Texts joined: EqE, EqI, IpR.
-/
import Derived.Test.YtlbdehegknehiaaGreatMg01
import Derived.Test.YtlbdehegknehiaaGreatEth
import Derived.Test.YtlbdehegknehiaaGreatIp
import Derived.Test.YtlbdehegknehiaaGreatMg00
import Derived.Test.YtlbdehegknehiaaGreatMg10
import Derived.Test.YtlbdehegknehiaaGreatMg07
/- A part of the proof. -/
namespace Go.Proofs.YtlbdehegknehiaaGreat
open Go.RowKit
set_option linter.unusedVariables false
end Go.Proofs.YtlbdehegknehiaaGreat

/- A part of the proof. -/
namespace Go.Proofs.YtlbdehegknehiaaGreat
open Go.RowKit
set_option linter.unusedVariables false
end Go.Proofs.YtlbdehegknehiaaGreat

/- A part of the proof. -/
namespace Go.Proofs.YtlbdehegknehiaaGreat
set_option maxRecDepth 100000
set_option maxHeartbeats 2000000
open Go.RowKit
set_option linter.unusedVariables false
attribute [local go_sem ↓] bld_ip ld_ip st_ip ld_addr st_addr
attribute [local go_sem] ldr_ip str_ip ldr_addr str_addr
theorem zeroI_cells : (ipC zeroI).toArray = zz40 := rfl
theorem bld_zeroI (w0 : World) : (aggBuild 78 #[]).run Tryz.prog w0 = .ok (.agg (ipC zeroI).toArray) w0 := bld_run _ _ _ (by kernel_rfl) _
theorem ipOf_cells (s : List UInt8) (h : 20 ≤ s.length) : (ipC (ipOf s)).toArray = #[.int .i64 (by8 s 1 : Int), .int .i64 (wd s 4 : Int), .int .i64 (by8 s 8 : Int), .int .i64 (by8 s 9 : Int), .bool false, .int .u8 (by8 s 12 : Int), .int .u8 (by8 s 13 : Int), .int .u8 (by8 s 14 : Int), .int .u8 (by8 s 15 : Int), .int .u8 0, .int .u8 0, .int .u8 0, .int .u8 0, .int .u8 0, .int .u8 0, .int .u8 0, .int .u8 0, .int .u8 0, .int .u8 0, .int .u8 0, .int .u8 0, .bool false, .int .u8 (by8 s 16 : Int), .int .u8 (by8 s 17 : Int), .int .u8 (by8 s 18 : Int), .int .u8 (by8 s 19 : Int), .int .u8 0, .int .u8 0, .int .u8 0, .int .u8 0, .int .u8 0, .int .u8 0, .int .u8 0, .int .u8 0, .int .u8 0, .int .u8 0, .int .u8 0, .int .u8 0, .bool (optS s).1, .string (Str ((s.drop (hdN s)).take (allN s - hdN s)))] := by
  obtain ⟨al, hal⟩ : ∃ al, al = (optS s).1 := ⟨_, rfl⟩
  obtain ⟨bd, hbd⟩ : ∃ bd, bd = (s.drop (hdN s)).take (allN s - hdN s) := ⟨_, rfl⟩
  obtain ⟨w4, hw4⟩ : ∃ w4, w4 = wd s 4 := ⟨_, rfl⟩
  unfold ipOf
  rw [← hal, ← hbd, ← hw4]
  clear hal hbd hw4
  have l12 : (s.drop 12).take 4 = [s[12], s[13], s[14], s[15]] := by
    rw [List.drop_eq_getElem_cons (show 12 < s.length by omega), List.drop_eq_getElem_cons (show 13 < s.length by omega), List.drop_eq_getElem_cons (show 14 < s.length by omega), List.drop_eq_getElem_cons (show 15 < s.length by omega)]
    rfl
  have l16 : (s.drop 16).take 4 = [s[16], s[17], s[18], s[19]] := by
    rw [List.drop_eq_getElem_cons (show 16 < s.length by omega), List.drop_eq_getElem_cons (show 17 < s.length by omega), List.drop_eq_getElem_cons (show 18 < s.length by omega), List.drop_eq_getElem_cons (show 19 < s.length by omega)]
    rfl
  rw [l12, l16, by8_get s 12 (by omega), by8_get s 13 (by omega), by8_get s 14 (by omega), by8_get s 15 (by omega), by8_get s 16 (by omega), by8_get s 17 (by omega), by8_get s 18 (by omega), by8_get s 19 (by omega)]
  rfl
theorem bld_of (b1 w4 b8 b9 b12 b13 b14 b15 b16 b17 b18 b19 : Int) (al : Bool) (S : ByteArray) (w0 : World) : (aggBuild 78 #[(0, .int .i64 b1), (1, .int .i64 w4), (2, .int .i64 b8), (3, .int .i64 b9), (4, .agg #[.bool false, .int .u8 b12, .int .u8 b13, .int .u8 b14, .int .u8 b15, .int .u8 0, .int .u8 0, .int .u8 0, .int .u8 0, .int .u8 0, .int .u8 0, .int .u8 0, .int .u8 0, .int .u8 0, .int .u8 0, .int .u8 0, .int .u8 0]), (5, .agg #[.bool false, .int .u8 b16, .int .u8 b17, .int .u8 b18, .int .u8 b19, .int .u8 0, .int .u8 0, .int .u8 0, .int .u8 0, .int .u8 0, .int .u8 0, .int .u8 0, .int .u8 0, .int .u8 0, .int .u8 0, .int .u8 0, .int .u8 0]), (6, .bool al), (7, .string S)]).run Tryz.prog w0 = .ok (.agg #[.int .i64 b1, .int .i64 w4, .int .i64 b8, .int .i64 b9, .bool false, .int .u8 b12, .int .u8 b13, .int .u8 b14, .int .u8 b15, .int .u8 0, .int .u8 0, .int .u8 0, .int .u8 0, .int .u8 0, .int .u8 0, .int .u8 0, .int .u8 0, .int .u8 0, .int .u8 0, .int .u8 0, .int .u8 0, .bool false, .int .u8 b16, .int .u8 b17, .int .u8 b18, .int .u8 b19, .int .u8 0, .int .u8 0, .int .u8 0, .int .u8 0, .int .u8 0, .int .u8 0, .int .u8 0, .int .u8 0, .int .u8 0, .int .u8 0, .int .u8 0, .int .u8 0, .bool al, .string S]) w0 := bld_run _ _ _ (by kernel_rfl) _
theorem bits_and_i64_nat (a b : Nat) (ha : a < 9223372036854775808) (hb : b < 9223372036854775808) :
    bits .and .i64 (a : Int) (b : Int) = ((a &&& b : Nat) : Int) := by
  have hx : a &&& b < 2 ^ 63 := Nat.and_lt_two_pow _ (by omega)
  have h1 : (BitVec.ofInt 64 (a : Int)).toNat = a := by
    rw [BitVec.ofInt_natCast, BitVec.toNat_ofNat]; exact Nat.mod_eq_of_lt (by omega)
  have h2 : (BitVec.ofInt 64 (b : Int)).toNat = b := by
    rw [BitVec.ofInt_natCast, BitVec.toNat_ofNat]; exact Nat.mod_eq_of_lt (by omega)
  show IntKind.i64.wrap ((BitVec.ofInt 64 (a : Int) &&& BitVec.ofInt 64 (b : Int)).toNat : Int) = _
  rw [BitVec.toNat_and, h1, h2, IntKind.wrap_i64]
  omega
theorem and_frag (a : Nat) (ha : a < 65536) : bits .and .i64 (a : Int) 16383 = ((a % 16384 : Nat) : Int) := by
  rw [show (16383 : Int) = ((16383 : Nat) : Int) from rfl, bits_and_i64_nat _ _ (by omega) (by omega), show (16383 : Nat) = 2 ^ 14 - 1 from rfl, Nat.and_two_pow_sub_one_eq_mod]
def RI (w W : World) : Prop := ObjAt W w.heap.size (ipC zeroI).toArray 78 ∧ Below w.heap.size w W
theorem RI.start (w : World) : RI w (w.alloc (.cells (ipC zeroI).toArray 78)) := ⟨ObjAt.made w _ _, (Below.refl _ _).alloc (Nat.le_refl _) _⟩
theorem RI.below {w W W' : World} (h : RI w W) (hb : Below W.heap.size W W') : RI w W' := ⟨h.1.below hb h.1.lt, bstep h.2 hb⟩
theorem RI.drewN {w W : World} (h : RI w W) (d : Nat) : RI w (W.drewN d) := h.below (bdrewN (Below.refl _ _) d)
theorem RI.free {w W : World} (h : RI w W) : free? W w.heap.size 0 40 = true := obj_free h.1 (by simp [ipC_length zeroI_ok])
theorem RI.done {w W : World} (h : RI w W) (e : Ip) (ho : e.ok) : row? (aggW W w.heap.size (ipC e)) w.heap.size 0 40 = some (ipC e) ∧ Below w.heap.size w (aggW W w.heap.size (ipC e)) :=
  ⟨aggW_row h.free (ipC_length ho), aggW_below h.2 (Nat.le_refl _) _⟩
theorem read5_hd (s : List UInt8) (hs : s.length ≤ 100000) (hE : hdE s ≠ 0) (w : World) :
    Calls Tryz.prog 91 #[.string (Str s)] w fun x w' => x = .returned (.tuple #[.agg (ipC (readV5 s).1).toArray, .int .i64 (readV5 s).2]) ∧ Below w.heap.size w w' := by
  have HR := zh (show readV5 s = (zeroI, hdE s) by unfold readV5; rw [why5_bad hE, if_neg hE])
  have HH := zh (fun W => header_any s hs W)
  have hbz := bld_zeroI
  have hfok := fok_ip zeroI_ok
  have h0 := RI.start w
  rw [zeroI_cells] at h0
  have H0 := zh h0
  clear h0
  have hne : (hdE s != 0) = true := by simpa using hE
  generalize hdE s = c at *
  generalize Str (hdS s) = S at *
  clear hs hE
  go_enter Tryz.func91, Tryz.ntmps91
  go_upto_region 1 with (fail)
  generalize w.alloc (.cells zz40 78) = W at H0 ⊢
  go_upto_region 3 with (go_at_call 167; (with_reducible refine (HH.out _).mono ?_); rintro x w1 ⟨rfl, hb1⟩; have H1 := zh (H0.out.below hb1); clear hb1; have hf := H1.out.free)
  go_wp2
  obtain ⟨q1, q2⟩ := H1.out.done zeroI zeroI_ok
  exact bodyPost_ret (results_cell2 Tryz.results91 rfl (ld_some q1 (ldr_ip _ _ _))) rfl ⟨by rw [HR.out]; rfl, q2⟩
structure RdH (s : List UInt8) : Prop where
  hd : ∀ W : World, Calls Tryz.prog 167 #[.string (Str s)] W fun x w' => x = .returned (.tuple #[.string (Str (s.take (hdN s))), .int .i64 0]) ∧ Below W.heap.size W w'
  w2 : ∀ W : World, Calls Tryz.prog 168 #[.string (Str s), .int .i64 2] W fun x w' => x = .returned (.int .i64 (allN s)) ∧ ∃ k, w' = W.drewN k
  w4 : ∀ W : World, Calls Tryz.prog 168 #[.string (Str s), .int .i64 4] W fun x w' => x = .returned (.int .i64 (wd s 4)) ∧ ∃ k, w' = W.drewN k
  w6 : ∀ W : World, Calls Tryz.prog 168 #[.string (Str s), .int .i64 6] W fun x w' => x = .returned (.int .i64 (wd s 6)) ∧ ∃ k, w' = W.drewN k
  op : ∀ W : World, Calls Tryz.prog 169 #[.string ((Str (s.take (hdN s))).extract 20 (hdN s))] W fun x w' => x = .returned (.tuple #[.bool (optS s).1, .bool (optS s).2]) ∧ W = w'
theorem RdH.of {s : List UInt8} (hs : s.length ≤ 100000) (hE : hdE s = 0) : RdH s := by
  obtain ⟨a1, a2, a3, a4, a5, a6⟩ := hdE_zero hE
  refine ⟨fun W => ?_, fun W => word5_any s 2 (by omega) (by omega) W, fun W => word5_any s 4 (by omega) (by omega) W, fun W => word5_any s 6 (by omega) (by omega) W, fun W => ?_⟩
  · have := header_any s hs W
    rw [hE, show hdS s = s.take (hdN s) by unfold hdS; rw [if_pos hE]] at this
    exact this
  · have hx : (Str (s.take (hdN s))).extract 20 (hdN s) = Str ((s.drop 20).take (hdN s - 20)) := by
      rw [Str_extract, List.drop_take, List.take_take, Nat.min_self]
    rw [hx]
    exact readOpts_any _ (by simp; omega) W
theorem read5_tot (s : List UInt8) (hs : s.length ≤ 100000) (hE : hdE s = 0) (h1 : allN s < hdN s) (w : World) :
    Calls Tryz.prog 91 #[.string (Str s)] w fun x w' => x = .returned (.tuple #[.agg (ipC (readV5 s).1).toArray, .int .i64 (readV5 s).2]) ∧ Below w.heap.size w w' := by
  have HR := zh (show readV5 s = (zeroI, 2) by unfold readV5; rw [show why5 s = 2 by rw [why5_hd hE]; unfold bdE; rw [if_pos h1], if_neg (by omega)])
  obtain ⟨a1, a2, a3, a4, a5, a6⟩ := hdE_zero hE
  have HX := RdH.of hs hE
  have HH := zh HX.hd
  have HW2 := zh HX.w2
  have HW6 := zh HX.w6
  have HOP := HX.op
  have hsz := Str_size s
  have hszH : (Str (s.take (hdN s))).size = hdN s := by rw [Str_size, List.length_take]; omega
  have hn20 : (20 : Int) ≤ (hdN s : Int) := by omega
  have hfr := and_frag (wd s 6) (wd_lt s 6 (by omega))
  have hwm : IntKind.i64.wrap ((allN s : Int) - (hdN s : Int)) = (allN s : Int) - (hdN s : Int) := by
    have := wd_lt s 2 (by omega); have : allN s = wd s 2 := rfl; simp only [IntKind.wrap_i64]; omega
  have hq1 : (allN s : Int) < (hdN s : Int) := by omega
  generalize (optS s).2 = o2 at HOP
  generalize (optS s).1 = o1 at HOP
  have HO := zh HOP
  have hbz := bld_zeroI
  have hfok := fok_ip zeroI_ok
  have h0 := RI.start w
  rw [zeroI_cells] at h0
  have H0 := zh h0
  clear h0 HX HOP a1 a2 a3 a4 a5 a6 hs hE
  generalize hdN s = n at *
  generalize allN s = t at *
  generalize wd s 6 % 16384 = fr at *
  generalize Str (s.take n) = S at *
  go_enter Tryz.func91, Tryz.ntmps91
  go_upto_region 1 with (fail)
  generalize w.alloc (.cells zz40 78) = W at H0 ⊢
  go_wp2_with (first
    | (go_at_call 167; (with_reducible refine (HH.out _).mono ?_); rintro x w1 ⟨rfl, hb1⟩; have H1 := zh (H0.out.below hb1); clear hb1)
    | (go_at_call 168; (with_reducible refine (HW2.out _).mono ?_); rintro x w2 ⟨rfl, d2, rfl⟩; have H2 := zh (H1.out.drewN d2); have hf := H2.out.free)
    | (go_at_call 169; (with_reducible refine (HO.out _).mono ?_); rintro x w3 ⟨rfl, rfl⟩)
    | (go_at_call 168; (with_reducible refine (HW6.out _).mono ?_); rintro x w4 ⟨rfl, d4, rfl⟩; have H3 := zh (H1.out.drewN (d2 + d4)); clear hf; have hf := H3.out.free))
  obtain ⟨q1, q2⟩ := H2.out.done zeroI zeroI_ok
  exact bodyPost_ret (results_cell2 Tryz.results91 rfl (ld_some q1 (ldr_ip _ _ _))) rfl ⟨by rw [HR.out]; rfl, q2⟩
theorem read5_end (s : List UInt8) (hs : s.length ≤ 100000) (hE : hdE s = 0) (h1 : ¬ allN s < hdN s) (h2 : s.length < allN s) (w : World) :
    Calls Tryz.prog 91 #[.string (Str s)] w fun x w' => x = .returned (.tuple #[.agg (ipC (readV5 s).1).toArray, .int .i64 (readV5 s).2]) ∧ Below w.heap.size w w' := by
  have HR := zh (show readV5 s = (zeroI, 3) by unfold readV5; rw [show why5 s = 3 by rw [why5_hd hE]; unfold bdE; rw [if_neg h1, if_pos h2], if_neg (by omega)])
  obtain ⟨a1, a2, a3, a4, a5, a6⟩ := hdE_zero hE
  have HX := RdH.of hs hE
  have HH := zh HX.hd
  have HW2 := zh HX.w2
  have HW6 := zh HX.w6
  have HOP := HX.op
  have hsz := Str_size s
  have hszH : (Str (s.take (hdN s))).size = hdN s := by rw [Str_size, List.length_take]; omega
  have hn20 : (20 : Int) ≤ (hdN s : Int) := by omega
  have hfr := and_frag (wd s 6) (wd_lt s 6 (by omega))
  have hwm : IntKind.i64.wrap ((allN s : Int) - (hdN s : Int)) = (allN s : Int) - (hdN s : Int) := by
    have := wd_lt s 2 (by omega); have : allN s = wd s 2 := rfl; simp only [IntKind.wrap_i64]; omega
  have hq1 : ¬ (allN s : Int) < (hdN s : Int) := by omega
  have hq2 : (s.length : Int) < (allN s : Int) := by omega
  generalize (optS s).2 = o2 at HOP
  generalize (optS s).1 = o1 at HOP
  have HO := zh HOP
  have hbz := bld_zeroI
  have hfok := fok_ip zeroI_ok
  have h0 := RI.start w
  rw [zeroI_cells] at h0
  have H0 := zh h0
  clear h0 HX HOP a1 a2 a3 a4 a5 a6 hs hE
  generalize hdN s = n at *
  generalize allN s = t at *
  generalize wd s 6 % 16384 = fr at *
  generalize Str (s.take n) = S at *
  go_enter Tryz.func91, Tryz.ntmps91
  go_upto_region 1 with (fail)
  generalize w.alloc (.cells zz40 78) = W at H0 ⊢
  go_wp2_with (first
    | (go_at_call 167; (with_reducible refine (HH.out _).mono ?_); rintro x w1 ⟨rfl, hb1⟩; have H1 := zh (H0.out.below hb1); clear hb1)
    | (go_at_call 168; (with_reducible refine (HW2.out _).mono ?_); rintro x w2 ⟨rfl, d2, rfl⟩; have H2 := zh (H1.out.drewN d2); have hf := H2.out.free)
    | (go_at_call 169; (with_reducible refine (HO.out _).mono ?_); rintro x w3 ⟨rfl, rfl⟩)
    | (go_at_call 168; (with_reducible refine (HW6.out _).mono ?_); rintro x w4 ⟨rfl, d4, rfl⟩; have H3 := zh (H1.out.drewN (d2 + d4)); clear hf; have hf := H3.out.free))
  obtain ⟨q1, q2⟩ := H2.out.done zeroI zeroI_ok
  exact bodyPost_ret (results_cell2 Tryz.results91 rfl (ld_some q1 (ldr_ip _ _ _))) rfl ⟨by rw [HR.out]; rfl, q2⟩
theorem read5_frag (s : List UInt8) (hs : s.length ≤ 100000) (hE : hdE s = 0) (h1 : ¬ allN s < hdN s) (h2 : ¬ s.length < allN s) (h3 : wd s 6 % 16384 ≠ 0) (w : World) :
    Calls Tryz.prog 91 #[.string (Str s)] w fun x w' => x = .returned (.tuple #[.agg (ipC (readV5 s).1).toArray, .int .i64 (readV5 s).2]) ∧ Below w.heap.size w w' := by
  have HR := zh (show readV5 s = (zeroI, 5) by unfold readV5; rw [show why5 s = 5 by rw [why5_hd hE]; unfold bdE; rw [if_neg h1, if_neg h2, if_pos h3], if_neg (by omega)])
  obtain ⟨a1, a2, a3, a4, a5, a6⟩ := hdE_zero hE
  have HX := RdH.of hs hE
  have HH := zh HX.hd
  have HW2 := zh HX.w2
  have HW6 := zh HX.w6
  have HOP := HX.op
  have hsz := Str_size s
  have hszH : (Str (s.take (hdN s))).size = hdN s := by rw [Str_size, List.length_take]; omega
  have hn20 : (20 : Int) ≤ (hdN s : Int) := by omega
  have hfr := and_frag (wd s 6) (wd_lt s 6 (by omega))
  have hwm : IntKind.i64.wrap ((allN s : Int) - (hdN s : Int)) = (allN s : Int) - (hdN s : Int) := by
    have := wd_lt s 2 (by omega); have : allN s = wd s 2 := rfl; simp only [IntKind.wrap_i64]; omega
  have hq1 : ¬ (allN s : Int) < (hdN s : Int) := by omega
  have hq2 : ¬ (s.length : Int) < (allN s : Int) := by omega
  have hq3 : (((wd s 6 % 16384 : Nat) : Int) != 0) = true := by simp; omega
  generalize (optS s).2 = o2 at HOP
  generalize (optS s).1 = o1 at HOP
  have HO := zh HOP
  have hbz := bld_zeroI
  have hfok := fok_ip zeroI_ok
  have h0 := RI.start w
  rw [zeroI_cells] at h0
  have H0 := zh h0
  clear h0 HX HOP a1 a2 a3 a4 a5 a6 hs hE
  generalize hdN s = n at *
  generalize allN s = t at *
  generalize wd s 6 % 16384 = fr at *
  generalize Str (s.take n) = S at *
  go_enter Tryz.func91, Tryz.ntmps91
  go_upto_region 1 with (fail)
  generalize w.alloc (.cells zz40 78) = W at H0 ⊢
  go_wp2_with (first
    | (go_at_call 167; (with_reducible refine (HH.out _).mono ?_); rintro x w1 ⟨rfl, hb1⟩; have H1 := zh (H0.out.below hb1); clear hb1)
    | (go_at_call 168; (with_reducible refine (HW2.out _).mono ?_); rintro x w2 ⟨rfl, d2, rfl⟩; have H2 := zh (H1.out.drewN d2); have hf := H2.out.free)
    | (go_at_call 169; (with_reducible refine (HO.out _).mono ?_); rintro x w3 ⟨rfl, rfl⟩)
    | (go_at_call 168; (with_reducible refine (HW6.out _).mono ?_); rintro x w4 ⟨rfl, d4, rfl⟩; have H3 := zh (H1.out.drewN (d2 + d4)); clear hf; have hf := H3.out.free))
  obtain ⟨q1, q2⟩ := H3.out.done zeroI zeroI_ok
  exact bodyPost_ret (results_cell2 Tryz.results91 rfl (ld_some q1 (ldr_ip _ _ _))) rfl ⟨by rw [HR.out]; rfl, q2⟩
theorem read5_opt (s : List UInt8) (hs : s.length ≤ 100000) (hE : hdE s = 0) (h1 : ¬ allN s < hdN s) (h2 : ¬ s.length < allN s) (h3 : ¬ wd s 6 % 16384 ≠ 0) (h4 : (optS s).2 = false) (w : World) :
    Calls Tryz.prog 91 #[.string (Str s)] w fun x w' => x = .returned (.tuple #[.agg (ipC (readV5 s).1).toArray, .int .i64 (readV5 s).2]) ∧ Below w.heap.size w w' := by
  have HR := zh (show readV5 s = (zeroI, 2) by unfold readV5; rw [show why5 s = 2 by rw [why5_hd hE]; unfold bdE; rw [if_neg h1, if_neg h2, if_neg h3, if_pos h4], if_neg (by omega)])
  obtain ⟨a1, a2, a3, a4, a5, a6⟩ := hdE_zero hE
  have HX := RdH.of hs hE
  have HH := zh HX.hd
  have HW2 := zh HX.w2
  have HW6 := zh HX.w6
  have HOP := HX.op
  have hsz := Str_size s
  have hszH : (Str (s.take (hdN s))).size = hdN s := by rw [Str_size, List.length_take]; omega
  have hn20 : (20 : Int) ≤ (hdN s : Int) := by omega
  have hfr := and_frag (wd s 6) (wd_lt s 6 (by omega))
  have hwm : IntKind.i64.wrap ((allN s : Int) - (hdN s : Int)) = (allN s : Int) - (hdN s : Int) := by
    have := wd_lt s 2 (by omega); have : allN s = wd s 2 := rfl; simp only [IntKind.wrap_i64]; omega
  have hq1 : ¬ (allN s : Int) < (hdN s : Int) := by omega
  have hq2 : ¬ (s.length : Int) < (allN s : Int) := by omega
  have hq3 : (((wd s 6 % 16384 : Nat) : Int) != 0) = false := by simp; omega
  rw [show (optS s).2 = false by simpa using h4] at HOP
  generalize (optS s).1 = o1 at HOP
  have HO := zh HOP
  have hbz := bld_zeroI
  have hfok := fok_ip zeroI_ok
  have h0 := RI.start w
  rw [zeroI_cells] at h0
  have H0 := zh h0
  clear h0 HX HOP a1 a2 a3 a4 a5 a6 hs hE
  generalize hdN s = n at *
  generalize allN s = t at *
  generalize wd s 6 % 16384 = fr at *
  generalize Str (s.take n) = S at *
  go_enter Tryz.func91, Tryz.ntmps91
  go_upto_region 1 with (fail)
  generalize w.alloc (.cells zz40 78) = W at H0 ⊢
  go_wp2_with (first
    | (go_at_call 167; (with_reducible refine (HH.out _).mono ?_); rintro x w1 ⟨rfl, hb1⟩; have H1 := zh (H0.out.below hb1); clear hb1)
    | (go_at_call 168; (with_reducible refine (HW2.out _).mono ?_); rintro x w2 ⟨rfl, d2, rfl⟩; have H2 := zh (H1.out.drewN d2); have hf := H2.out.free)
    | (go_at_call 169; (with_reducible refine (HO.out _).mono ?_); rintro x w3 ⟨rfl, rfl⟩)
    | (go_at_call 168; (with_reducible refine (HW6.out _).mono ?_); rintro x w4 ⟨rfl, d4, rfl⟩; have H3 := zh (H1.out.drewN (d2 + d4)); clear hf; have hf := H3.out.free))
  obtain ⟨q1, q2⟩ := H3.out.done zeroI zeroI_ok
  exact bodyPost_ret (results_cell2 Tryz.results91 rfl (ld_some q1 (ldr_ip _ _ _))) rfl ⟨by rw [HR.out]; rfl, q2⟩
theorem read5_long (s : List UInt8) (hs : s.length ≤ 100000) (hE : hdE s = 0) (h1 : ¬ allN s < hdN s) (h2 : ¬ s.length < allN s) (h3 : ¬ wd s 6 % 16384 ≠ 0) (h4 : ¬ (optS s).2 = false) (h5 : 1400 < allN s - hdN s) (w : World) :
    Calls Tryz.prog 91 #[.string (Str s)] w fun x w' => x = .returned (.tuple #[.agg (ipC (readV5 s).1).toArray, .int .i64 (readV5 s).2]) ∧ Below w.heap.size w w' := by
  have HR := zh (show readV5 s = (zeroI, 6) by unfold readV5; rw [show why5 s = 6 by rw [why5_hd hE]; unfold bdE; rw [if_neg h1, if_neg h2, if_neg h3, if_neg h4, if_pos h5], if_neg (by omega)])
  obtain ⟨a1, a2, a3, a4, a5, a6⟩ := hdE_zero hE
  have HX := RdH.of hs hE
  have HH := zh HX.hd
  have HW2 := zh HX.w2
  have HW6 := zh HX.w6
  have HOP := HX.op
  have hsz := Str_size s
  have hszH : (Str (s.take (hdN s))).size = hdN s := by rw [Str_size, List.length_take]; omega
  have hn20 : (20 : Int) ≤ (hdN s : Int) := by omega
  have hfr := and_frag (wd s 6) (wd_lt s 6 (by omega))
  have hwm : IntKind.i64.wrap ((allN s : Int) - (hdN s : Int)) = (allN s : Int) - (hdN s : Int) := by
    have := wd_lt s 2 (by omega); have : allN s = wd s 2 := rfl; simp only [IntKind.wrap_i64]; omega
  have hq1 : ¬ (allN s : Int) < (hdN s : Int) := by omega
  have hq2 : ¬ (s.length : Int) < (allN s : Int) := by omega
  have hq3 : (((wd s 6 % 16384 : Nat) : Int) != 0) = false := by simp; omega
  have hq5 : (1400 : Int) < (allN s : Int) - (hdN s : Int) := by omega
  rw [show (optS s).2 = true by simpa using h4] at HOP
  generalize (optS s).1 = o1 at HOP
  have HO := zh HOP
  have hbz := bld_zeroI
  have hfok := fok_ip zeroI_ok
  have h0 := RI.start w
  rw [zeroI_cells] at h0
  have H0 := zh h0
  clear h0 HX HOP a1 a2 a3 a4 a5 a6 hs hE
  generalize hdN s = n at *
  generalize allN s = t at *
  generalize wd s 6 % 16384 = fr at *
  generalize Str (s.take n) = S at *
  go_enter Tryz.func91, Tryz.ntmps91
  go_upto_region 1 with (fail)
  generalize w.alloc (.cells zz40 78) = W at H0 ⊢
  go_wp2_with (first
    | (go_at_call 167; (with_reducible refine (HH.out _).mono ?_); rintro x w1 ⟨rfl, hb1⟩; have H1 := zh (H0.out.below hb1); clear hb1)
    | (go_at_call 168; (with_reducible refine (HW2.out _).mono ?_); rintro x w2 ⟨rfl, d2, rfl⟩; have H2 := zh (H1.out.drewN d2); have hf := H2.out.free)
    | (go_at_call 169; (with_reducible refine (HO.out _).mono ?_); rintro x w3 ⟨rfl, rfl⟩)
    | (go_at_call 168; (with_reducible refine (HW6.out _).mono ?_); rintro x w4 ⟨rfl, d4, rfl⟩; have H3 := zh (H1.out.drewN (d2 + d4)); clear hf; have hf := H3.out.free))
  obtain ⟨q1, q2⟩ := H3.out.done zeroI zeroI_ok
  exact bodyPost_ret (results_cell2 Tryz.results91 rfl (ld_some q1 (ldr_ip _ _ _))) rfl ⟨by rw [HR.out]; rfl, q2⟩
end Go.Proofs.YtlbdehegknehiaaGreat

