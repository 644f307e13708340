/-
  Texts joined: IpS, FrL.
-/
import Derived.Test.YtlbdehegknehiaaGreatMg00
import Derived.Test.YtlbdehegknehiaaGreatMg12
import Derived.Test.YtlbdehegknehiaaGreatMg31
import Derived.Test.YtlbdehegknehiaaGreatFrD
import Derived.Test.YtlbdehegknehiaaGreatIgZ
import Derived.Test.YtlbdehegknehiaaGreatIgH
import Derived.Test.YtlbdehegknehiaaGreatMg16
/- A part of the proof. -/
namespace Go.Proofs.YtlbdehegknehiaaGreat
set_option maxRecDepth 100000
set_option maxHeartbeats 4000000
open Go.RowKit
set_option linter.unusedVariables false
attribute [local go_sem ↓] bld_ip ld_ip st_ip ld_addr st_addr
attribute [local go_sem] ldr_ip str_ip ldr_addr str_addr
theorem lt_size {s : List UInt8} {i : Nat} (h : (i : Int) < (s.length : Int)) : i < (Str s).size := by rw [Str_size]; omega
theorem read5_good (s : List UInt8) (hs : s.length ≤ 100000) (hy : why5 s = 0) (w : World) :
    Calls Tryz.prog 91 #[.string (Str s)] w fun x w' => x = .returned (.tuple #[.agg (ipC (readV5 s).1).toArray, .int .i64 (readV5 s).2]) ∧ Below w.heap.size w w' := by
  have HR := zh (show readV5 s = (ipOf s, 0) by unfold readV5; rw [if_pos hy])
  obtain ⟨hE, hB⟩ := why5_zero hy
  obtain ⟨a1, a2, a3, a4, a5, a6⟩ := hdE_zero hE
  obtain ⟨c1, c2, c3, c4, c5⟩ := bdE_zero hB
  have HX := RdH.of hs hE
  have HH := zh HX.hd
  have HW2 := zh HX.w2
  have HW4 : Hid (∀ W : World, Calls Tryz.prog 168 #[.string (Str s), .int .i64 4] W fun x w' => x = .returned (.int .i64 (wd s 4)) ∧ Below W.heap.size W w') := zh fun W => (HX.w4 W).mono fun x w' h => ⟨h.1, bsame (Below.refl _ _) h.2⟩
  have HW6 := zh HX.w6
  have HOP := HX.op
  rw [c4] at HOP
  have HO := zh HOP
  have hsz := Str_size s
  have hszH : (Str (s.take (hdN s))).size = hdN s := by rw [Str_size, List.length_take]; omega
  have hn20 : (20 : Int) ≤ (hdN s : Int) := by omega
  have hfr := and_frag (wd s 6) (wd_lt s 6 (by omega))
  rw [c3] at hfr
  have hwm : IntKind.i64.wrap ((allN s : Int) - (hdN s : Int)) = (allN s : Int) - (hdN s : Int) := by simp only [IntKind.wrap_i64]; omega
  have hq1 : ¬ (allN s : Int) < (hdN s : Int) := by omega
  have hq2 : ¬ (s.length : Int) < (allN s : Int) := by omega
  have hq5 : ¬ (1400 : Int) < (allN s : Int) - (hdN s : Int) := by omega
  have hn0 : (0 : Int) ≤ (hdN s : Int) := by omega
  have hnt : (hdN s : Int) ≤ (allN s : Int) := by omega
  have htl : (allN s : Int) ≤ (s.length : Int) := by omega
  have hex : (Str s).extract (hdN s) (allN s) = Str ((s.drop (hdN s)).take (allN s - hdN s)) := Str_extract s _ _
  have hE0 := ipOf_ok s
  have hcl := ipOf_cells s a1
  have hbl := fun w0 => bld_of (by8 s 1 : Int) (wd s 4 : Int) (by8 s 8 : Int) (by8 s 9 : Int) (by8 s 12 : Int) (by8 s 13 : Int) (by8 s 14 : Int) (by8 s 15 : Int) (by8 s 16 : Int) (by8 s 17 : Int) (by8 s 18 : Int) (by8 s 19 : Int) (optS s).1 (Str ((s.drop (hdN s)).take (allN s - hdN s))) w0
  rw [← hcl] at hbl
  have hfok := fok_ip hE0
  have HE0 := zh hE0
  have i1 : (1 : Int) < (s.length : Int) := by omega
  have e1 := Str_at s 1 (lt_size i1)
  have u1 := by8_lt s 1
  have i8 : (8 : Int) < (s.length : Int) := by omega
  have e8 := Str_at s 8 (lt_size i8)
  have u8 := by8_lt s 8
  have i9 : (9 : Int) < (s.length : Int) := by omega
  have e9 := Str_at s 9 (lt_size i9)
  have u9 := by8_lt s 9
  have i12 : (12 : Int) < (s.length : Int) := by omega
  have e12 := Str_at s 12 (lt_size i12)
  have u12 := by8_lt s 12
  have i13 : (13 : Int) < (s.length : Int) := by omega
  have e13 := Str_at s 13 (lt_size i13)
  have u13 := by8_lt s 13
  have i14 : (14 : Int) < (s.length : Int) := by omega
  have e14 := Str_at s 14 (lt_size i14)
  have u14 := by8_lt s 14
  have i15 : (15 : Int) < (s.length : Int) := by omega
  have e15 := Str_at s 15 (lt_size i15)
  have u15 := by8_lt s 15
  have i16 : (16 : Int) < (s.length : Int) := by omega
  have e16 := Str_at s 16 (lt_size i16)
  have u16 := by8_lt s 16
  have i17 : (17 : Int) < (s.length : Int) := by omega
  have e17 := Str_at s 17 (lt_size i17)
  have u17 := by8_lt s 17
  have i18 : (18 : Int) < (s.length : Int) := by omega
  have e18 := Str_at s 18 (lt_size i18)
  have u18 := by8_lt s 18
  have i19 : (19 : Int) < (s.length : Int) := by omega
  have e19 := Str_at s 19 (lt_size i19)
  have u19 := by8_lt s 19
  have v1 : IntKind.i64.wrap (by8 s 1 : Int) = (by8 s 1 : Int) := by simp only [IntKind.wrap_i64]; omega
  have v8 : IntKind.i64.wrap (by8 s 8 : Int) = (by8 s 8 : Int) := by simp only [IntKind.wrap_i64]; omega
  have v9 : IntKind.i64.wrap (by8 s 9 : Int) = (by8 s 9 : Int) := by simp only [IntKind.wrap_i64]; omega
  have HI1 : Hid (∀ W : World, Calls Tryz.prog 76 #[.int .u8 (by8 s 12 : Int), .int .u8 (by8 s 13 : Int), .int .u8 (by8 s 14 : Int), .int .u8 (by8 s 15 : Int)] W fun e w' => e = .returned (.agg #[.bool false, .int .u8 (by8 s 12 : Int), .int .u8 (by8 s 13 : Int), .int .u8 (by8 s 14 : Int), .int .u8 (by8 s 15 : Int), .int .u8 0, .int .u8 0, .int .u8 0, .int .u8 0, .int .u8 0, .int .u8 0, .int .u8 0, .int .u8 0, .int .u8 0, .int .u8 0, .int .u8 0, .int .u8 0]) ∧ Below W.heap.size W w') := zh fun W => ip4_any _ _ _ _ W
  have HI2 : Hid (∀ W : World, Calls Tryz.prog 76 #[.int .u8 (by8 s 16 : Int), .int .u8 (by8 s 17 : Int), .int .u8 (by8 s 18 : Int), .int .u8 (by8 s 19 : Int)] W fun e w' => e = .returned (.agg #[.bool false, .int .u8 (by8 s 16 : Int), .int .u8 (by8 s 17 : Int), .int .u8 (by8 s 18 : Int), .int .u8 (by8 s 19 : Int), .int .u8 0, .int .u8 0, .int .u8 0, .int .u8 0, .int .u8 0, .int .u8 0, .int .u8 0, .int .u8 0, .int .u8 0, .int .u8 0, .int .u8 0, .int .u8 0]) ∧ Below W.heap.size W w') := zh fun W => ip4_any _ _ _ _ W
  have h0 := RI.start w
  rw [zeroI_cells] at h0
  have H0 := zh h0
  clear h0 HX HOP a1 a2 a3 a4 a5 a6 hs hE c1 c2 c3 c4 c5 hy hB hcl hE0
  generalize ipOf s = E at *
  generalize (optS s).1 = o1 at *
  generalize Str ((s.drop (hdN s)).take (allN s - hdN s)) = B at *
  generalize hdN s = n at *
  generalize allN s = t at *
  generalize wd s 6 = fr at *
  generalize wd s 4 = w4 at *
  generalize by8 s 1 = b1 at *
  generalize by8 s 8 = b8 at *
  generalize by8 s 9 = b9 at *
  generalize by8 s 12 = b12 at *
  generalize by8 s 13 = b13 at *
  generalize by8 s 14 = b14 at *
  generalize by8 s 15 = b15 at *
  generalize by8 s 16 = b16 at *
  generalize by8 s 17 = b17 at *
  generalize by8 s 18 = b18 at *
  generalize by8 s 19 = b19 at *
  generalize Str (s.take n) = S at *
  go_enter Tryz.func91, Tryz.ntmps91
  go_upto_region 1 with (fail)
  generalize w.alloc (.cells zz40 78) = W at H0 ⊢
  go_upto_region 16 with (first
    | (go_at_call 167; (with_reducible refine (HH.out _).mono ?_); rintro x w1 ⟨rfl, hb1⟩; have H1 := zh (H0.out.below hb1); clear hb1)
    | (go_at_call 168; (with_reducible refine (HW2.out _).mono ?_); rintro x w2 ⟨rfl, d2, rfl⟩)
    | (go_at_call 169; (with_reducible refine (HO.out _).mono ?_); rintro x w3 ⟨rfl, rfl⟩)
    | (go_at_call 168; (with_reducible refine (HW6.out _).mono ?_); rintro x w4 ⟨rfl, d4, rfl⟩; have H3 := zh (H1.out.drewN (d2 + d4))))
  generalize w1.drewN (d2 + d4) = W5 at H3 ⊢
  clear H1 H0 hq1 hq2 hq5 hfr hwm
  refine wp_region_held_drew (S := fun _ => True) (by kernel_rfl) (trivial) (fun hHeld => ?_)
  refine wpAnyH_take (i := 0) (oi := { dst := some 55, op := _, type := _, pos := _, after := _, guard := _ }) (v := ?v1) rfl (by kernel_rfl) (by kernel_rfl) (by kernel_rfl) (fun _ _ _ h => h) (Or.inl ⟨by rfl, ?y1⟩) (by assumption) ?r1
  case y1 => (intro w hSw; go_simp; try with_reducible rfl)
  try simp only [Act.put, zsA, zsZ, zsS]
  refine wpAnyH_take (i := 1) (oi := { dst := some 56, op := _, type := _, pos := _, after := _, guard := _ }) (v := ?v2) rfl (by kernel_rfl) (by kernel_rfl) (by kernel_rfl) (fun _ _ _ h => h) (Or.inl ⟨by rfl, ?y2⟩) (by assumption) ?r2
  case y2 => (intro w hSw; go_simp; try with_reducible rfl)
  try simp only [Act.put, zsA, zsZ, zsS]
  refine wpAnyH_take (i := 2) (oi := { dst := some 57, op := _, type := _, pos := _, after := _, guard := _ }) (v := ?v3) rfl (by kernel_rfl) (by kernel_rfl) (by kernel_rfl) (fun _ _ _ h => h) (Or.inl ⟨by rfl, ?y3⟩) (by assumption) ?r3
  case y3 => (intro w hSw; go_simp; try with_reducible rfl)
  try simp only [Act.put, zsA, zsZ, zsS]
  refine wpAnyH_take (i := 3) (oi := { dst := some 58, op := _, type := _, pos := _, after := _, guard := _ }) (v := ?v4) rfl (by kernel_rfl) (by kernel_rfl) (by kernel_rfl) (fun _ _ _ h => h) (Or.inl ⟨by rfl, ?y4⟩) (by assumption) ?r4
  case y4 => (intro w hSw; go_simp; try with_reducible rfl)
  try simp only [Act.put, zsA, zsZ, zsS]
  refine wpAnyH_take (i := 5) (oi := { dst := some 60, op := _, type := _, pos := _, after := _, guard := _ }) (v := ?v5) rfl (by kernel_rfl) (by kernel_rfl) (by kernel_rfl) (fun _ _ _ h => h) (Or.inl ⟨by rfl, ?y5⟩) (by assumption) ?r5
  case y5 => (intro w hSw; go_simp; try with_reducible rfl)
  try simp only [Act.put, zsA, zsZ, zsS]
  refine wpAnyH_take (i := 6) (oi := { dst := some 61, op := _, type := _, pos := _, after := _, guard := _ }) (v := ?v6) rfl (by kernel_rfl) (by kernel_rfl) (by kernel_rfl) (fun _ _ _ h => h) (Or.inl ⟨by rfl, ?y6⟩) (by assumption) ?r6
  case y6 => (intro w hSw; go_simp; try with_reducible rfl)
  try simp only [Act.put, zsA, zsZ, zsS]
  refine wpAnyH_take (i := 7) (oi := { dst := some 62, op := _, type := _, pos := _, after := _, guard := _ }) (v := ?v7) rfl (by kernel_rfl) (by kernel_rfl) (by kernel_rfl) (fun _ _ _ h => h) (Or.inl ⟨by rfl, ?y7⟩) (by assumption) ?r7
  case y7 => (intro w hSw; go_simp; try with_reducible rfl)
  try simp only [Act.put, zsA, zsZ, zsS]
  refine wpAnyH_take (i := 8) (oi := { dst := some 63, op := _, type := _, pos := _, after := _, guard := _ }) (v := ?v8) rfl (by kernel_rfl) (by kernel_rfl) (by kernel_rfl) (fun _ _ _ h => h) (Or.inl ⟨by rfl, ?y8⟩) (by assumption) ?r8
  case y8 => (intro w hSw; go_simp; try with_reducible rfl)
  try simp only [Act.put, zsA, zsZ, zsS]
  refine wpAnyH_take (i := 9) (oi := { dst := some 64, op := _, type := _, pos := _, after := _, guard := _ }) (v := ?v9) rfl (by kernel_rfl) (by kernel_rfl) (by kernel_rfl) (fun _ _ _ h => h) (Or.inl ⟨by rfl, ?y9⟩) (by assumption) ?r9
  case y9 => (intro w hSw; go_simp; try with_reducible rfl)
  try simp only [Act.put, zsA, zsZ, zsS]
  refine wpAnyH_take (i := 10) (oi := { dst := some 65, op := _, type := _, pos := _, after := _, guard := _ }) (v := ?v10) rfl (by kernel_rfl) (by kernel_rfl) (by kernel_rfl) (fun _ _ _ h => h) (Or.inl ⟨by rfl, ?y10⟩) (by assumption) ?r10
  case y10 => (intro w hSw; go_simp; try with_reducible rfl)
  try simp only [Act.put, zsA, zsZ, zsS]
  refine wpAnyH_take (i := 11) (oi := { dst := some 66, op := _, type := _, pos := _, after := _, guard := _ }) (v := ?v11) rfl (by kernel_rfl) (by kernel_rfl) (by kernel_rfl) (fun _ _ _ h => h) (Or.inl ⟨by rfl, ?y11⟩) (by assumption) ?r11
  case y11 => (intro w hSw; go_simp; try with_reducible rfl)
  try simp only [Act.put, zsA, zsZ, zsS]
  refine wpAnyH_take (i := 12) (oi := { dst := some 67, op := _, type := _, pos := _, after := _, guard := _ }) (v := ?v12) rfl (by kernel_rfl) (by kernel_rfl) (by kernel_rfl) (fun _ _ _ h => h) (Or.inl ⟨by rfl, ?y12⟩) (by assumption) ?r12
  case y12 => (intro w hSw; go_simp; try with_reducible rfl)
  try simp only [Act.put, zsA, zsZ, zsS]
  refine wpAnyH_take (i := 13) (oi := { dst := some 68, op := _, type := _, pos := _, after := _, guard := _ }) (v := ?v13) rfl (by kernel_rfl) (by kernel_rfl) (by kernel_rfl) (fun _ _ _ h => h) (Or.inl ⟨by rfl, ?y13⟩) (by assumption) ?r13
  case y13 => (intro w hSw; go_simp; try with_reducible rfl)
  try simp only [Act.put, zsA, zsZ, zsS]
  refine wpAnyH_take (i := 14) (oi := { dst := some 69, op := _, type := _, pos := _, after := _, guard := _ }) (v := ?v14) rfl (by kernel_rfl) (by kernel_rfl) (by kernel_rfl) (fun _ _ _ h => h) (Or.inl ⟨by rfl, ?y14⟩) (by assumption) ?r14
  case y14 => (intro w hSw; go_simp; try with_reducible rfl)
  try simp only [Act.put, zsA, zsZ, zsS]
  refine wpAnyH_take (i := 15) (oi := { dst := some 70, op := _, type := _, pos := _, after := _, guard := _ }) (v := ?v15) rfl (by kernel_rfl) (by kernel_rfl) (by kernel_rfl) (fun _ _ _ h => h) (Or.inl ⟨by rfl, ?y15⟩) (by assumption) ?r15
  case y15 => (intro w hSw; go_simp; try with_reducible rfl)
  try simp only [Act.put, zsA, zsZ, zsS]
  refine wpAnyH_take (i := 16) (oi := { dst := some 71, op := _, type := _, pos := _, after := _, guard := _ }) (v := ?v16) rfl (by kernel_rfl) (by kernel_rfl) (by kernel_rfl) (fun _ _ _ h => h) (Or.inl ⟨by rfl, ?y16⟩) (by assumption) ?r16
  case y16 => (intro w hSw; go_simp; try with_reducible rfl)
  try simp only [Act.put, zsA, zsZ, zsS]
  refine wpAnyH_take (i := 17) (oi := { dst := some 72, op := _, type := _, pos := _, after := _, guard := _ }) (v := ?v17) rfl (by kernel_rfl) (by kernel_rfl) (by kernel_rfl) (fun _ _ _ h => h) (Or.inl ⟨by rfl, ?y17⟩) (by assumption) ?r17
  case y17 => (intro w hSw; go_simp; try with_reducible rfl)
  try simp only [Act.put, zsA, zsZ, zsS]
  refine wpAnyH_take (i := 18) (oi := { dst := some 73, op := _, type := _, pos := _, after := _, guard := _ }) (v := ?v18) rfl (by kernel_rfl) (by kernel_rfl) (by kernel_rfl) (fun _ _ _ h => h) (Or.inl ⟨by rfl, ?y18⟩) (by assumption) ?r18
  case y18 => (intro w hSw; go_simp; try with_reducible rfl)
  try simp only [Act.put, zsA, zsZ, zsS]
  refine wpAnyH_take (i := 20) (oi := { dst := some 75, op := _, type := _, pos := _, after := _, guard := _ }) (v := ?v19) rfl (by kernel_rfl) (by kernel_rfl) (by kernel_rfl) (fun _ _ _ h => h) (Or.inl ⟨by rfl, ?y19⟩) (by assumption) ?r19
  case y19 => (intro w hSw; go_simp; try with_reducible rfl)
  try simp only [Act.put, zsA, zsZ, zsS]
  refine wpAnyH_take (i := 21) (oi := { dst := some 76, op := _, type := _, pos := _, after := _, guard := _ }) (v := ?v20) rfl (by kernel_rfl) (by kernel_rfl) (by kernel_rfl) (fun _ _ _ h => h) (Or.inl ⟨by rfl, ?y20⟩) (by assumption) ?r20
  case y20 => (intro w hSw; go_simp; try with_reducible rfl)
  try simp only [Act.put, zsA, zsZ, zsS]
  refine wpAnyH_take (i := 22) (oi := { dst := some 77, op := _, type := _, pos := _, after := _, guard := _ }) (v := ?v21) rfl (by kernel_rfl) (by kernel_rfl) (by kernel_rfl) (fun _ _ _ h => h) (Or.inl ⟨by rfl, ?y21⟩) (by assumption) ?r21
  case y21 => (intro w hSw; go_simp; try with_reducible rfl)
  try simp only [Act.put, zsA, zsZ, zsS]
  refine wpAnyH_take (i := 23) (oi := { dst := some 78, op := _, type := _, pos := _, after := _, guard := _ }) (v := ?v22) rfl (by kernel_rfl) (by kernel_rfl) (by kernel_rfl) (fun _ _ _ h => h) (Or.inl ⟨by rfl, ?y22⟩) (by assumption) ?r22
  case y22 => (intro w hSw; go_simp; try with_reducible rfl)
  try simp only [Act.put, zsA, zsZ, zsS]
  refine wpAnyH_take (i := 24) (oi := { dst := some 79, op := _, type := _, pos := _, after := _, guard := _ }) (v := ?v23) rfl (by kernel_rfl) (by kernel_rfl) (by kernel_rfl) (fun _ _ _ h => h) (Or.inl ⟨by rfl, ?y23⟩) (by assumption) ?r23
  case y23 => (intro w hSw; go_simp; try with_reducible rfl)
  try simp only [Act.put, zsA, zsZ, zsS]
  refine wpAnyH_take (i := 25) (oi := { dst := some 80, op := _, type := _, pos := _, after := _, guard := _ }) (v := ?v24) rfl (by kernel_rfl) (by kernel_rfl) (by kernel_rfl) (fun _ _ _ h => h) (Or.inl ⟨by rfl, ?y24⟩) (by assumption) ?r24
  case y24 => (intro w hSw; go_simp; try with_reducible rfl)
  try simp only [Act.put, zsA, zsZ, zsS]
  refine wpAnyH_take (i := 26) (oi := { dst := some 81, op := _, type := _, pos := _, after := _, guard := _ }) (v := ?v25) rfl (by kernel_rfl) (by kernel_rfl) (by kernel_rfl) (fun _ _ _ h => h) (Or.inl ⟨by rfl, ?y25⟩) (by assumption) ?r25
  case y25 => (intro w hSw; go_simp; try with_reducible rfl)
  try simp only [Act.put, zsA, zsZ, zsS]
  refine wpAnyH_take (i := 27) (oi := { dst := some 82, op := _, type := _, pos := _, after := _, guard := _ }) (v := ?v26) rfl (by kernel_rfl) (by kernel_rfl) (by kernel_rfl) (fun _ _ _ h => h) (Or.inl ⟨by rfl, ?y26⟩) (by assumption) ?r26
  case y26 => (intro w hSw; go_simp; try with_reducible rfl)
  try simp only [Act.put, zsA, zsZ, zsS]
  refine wpAnyH_take (i := 29) (oi := { dst := some 84, op := _, type := _, pos := _, after := _, guard := _ }) (v := ?v27) rfl (by kernel_rfl) (by kernel_rfl) (by kernel_rfl) (fun _ _ _ h => h) (Or.inl ⟨by rfl, ?y27⟩) (by assumption) ?r27
  case y27 => (intro w hSw; go_simp; try with_reducible rfl)
  try simp only [Act.put, zsA, zsZ, zsS]
  refine wpAnyH_take (i := 30) (oi := { dst := some 85, op := _, type := _, pos := _, after := _, guard := _ }) (v := ?v28) rfl (by kernel_rfl) (by kernel_rfl) (by kernel_rfl) (fun _ _ _ h => h) (Or.inl ⟨by rfl, ?y28⟩) (by assumption) ?r28
  case y28 => (intro w hSw; go_simp; try with_reducible rfl)
  try simp only [Act.put, zsA, zsZ, zsS]
  refine wpAnyH_take (i := 31) (oi := { dst := some 86, op := _, type := _, pos := _, after := _, guard := _ }) (v := ?v29) rfl (by kernel_rfl) (by kernel_rfl) (by kernel_rfl) (fun _ _ _ h => h) (Or.inl ⟨by rfl, ?y29⟩) (by assumption) ?r29
  case y29 => (intro w hSw; go_simp; try with_reducible rfl)
  try simp only [Act.put, zsA, zsZ, zsS]
  refine wpAnyH_take (i := 32) (oi := { dst := some 87, op := _, type := _, pos := _, after := _, guard := _ }) (v := ?v30) rfl (by kernel_rfl) (by kernel_rfl) (by kernel_rfl) (fun _ _ _ h => h) (Or.inl ⟨by rfl, ?y30⟩) (by assumption) ?r30
  case y30 => (intro w hSw; go_simp; try with_reducible rfl)
  try simp only [Act.put, zsA, zsZ, zsS]
  refine wpAnyH_take (i := 33) (oi := { dst := some 88, op := _, type := _, pos := _, after := _, guard := _ }) (v := ?v31) rfl (by kernel_rfl) (by kernel_rfl) (by kernel_rfl) (fun _ _ _ h => h) (Or.inl ⟨by rfl, ?y31⟩) (by assumption) ?r31
  case y31 => (intro w hSw; go_simp; try with_reducible rfl)
  try simp only [Act.put, zsA, zsZ, zsS]
  refine wpAnyH_take (i := 34) (oi := { dst := some 89, op := _, type := _, pos := _, after := _, guard := _ }) (v := ?v32) rfl (by kernel_rfl) (by kernel_rfl) (by kernel_rfl) (fun _ _ _ h => h) (Or.inl ⟨by rfl, ?y32⟩) (by assumption) ?r32
  case y32 => (intro w hSw; go_simp; try with_reducible rfl)
  try simp only [Act.put, zsA, zsZ, zsS]
  refine wpAnyH_ready (rs := [4]) (by kernel_rfl) (by simp) (AllReadyH.cons (o := _) rfl (fun K hK => ?_) AllReadyH.nil)
  go_simp
  (go_at_call 168; (with_reducible refine (HW4.out _).mono ?_); rintro x w6 ⟨rfl, hb6⟩; have H6 := zh (RI.below (by first | exact H3.out | exact H3.out.drewN 1) hb6); clear hb6)
  try go_wp2_with fail
  refine hK.out _ _ (trivial) (fun hHeld => ?_)
  clear hK K
  try simp only [Act.put, zsA, zsZ, zsS]
  refine wpAnyH_ready (rs := [19]) (by kernel_rfl) (by simp) (AllReadyH.cons (o := _) rfl (fun K hK => ?_) AllReadyH.nil)
  go_simp
  (go_at_call 76; (with_reducible refine (HI1.out _).mono ?_); rintro x w7 ⟨rfl, hb7⟩; have H7 := zh (RI.below (by first | exact H6.out | exact H6.out.drewN 1) hb7); clear hb7)
  try go_wp2_with fail
  refine hK.out _ _ (trivial) (fun hHeld => ?_)
  clear hK K
  try simp only [Act.put, zsA, zsZ, zsS]
  refine wpAnyH_ready (rs := [28]) (by kernel_rfl) (by simp) (AllReadyH.cons (o := _) rfl (fun K hK => ?_) AllReadyH.nil)
  go_simp
  (go_at_call 76; (with_reducible refine (HI2.out _).mono ?_); rintro x w8 ⟨rfl, hb8⟩; have H8 := zh (RI.below (by first | exact H7.out | exact H7.out.drewN 1) hb8); have hf := H8.out.free; have hf1 := (H8.out.drewN 1).free; clear hb8)
  try go_wp2_with fail
  refine hK.out _ _ (trivial) (fun hHeld => ?_)
  clear hK K
  try simp only [Act.put, zsA, zsZ, zsS]
  refine wpAnyH_take (i := 35) (oi := { dst := some 90, op := _, type := _, pos := _, after := _, guard := _ }) (v := ?v33) rfl (by kernel_rfl) (by kernel_rfl) (by kernel_rfl) (fun _ _ _ h => h) (Or.inl ⟨by rfl, ?y33⟩) (by assumption) ?r33
  case y33 => (intro w hSw; go_simp; try with_reducible rfl)
  try simp only [Act.put, zsA, zsZ, zsS]
  refine wpAnyH_ready (rs := [36]) (by kernel_rfl) (by simp) (AllReadyH.cons (o := _) rfl (fun K hK => ?_) AllReadyH.nil)
  go_simp
  refine hK.out _ _ (trivial) (fun hHeld => ?_)
  clear hK K
  try simp only [Act.put, zsA, zsZ, zsS]
  refine wpAnyH_take (i := 37) (oi := { dst := some 3, op := _, type := _, pos := _, after := _, guard := _ }) (v := ?v34) rfl (by kernel_rfl) (by kernel_rfl) (by kernel_rfl) (fun _ _ _ h => h) (Or.inl ⟨by rfl, ?y34⟩) (by assumption) ?r34
  case y34 => (intro w hSw; go_simp; try with_reducible rfl)
  try simp only [Act.put, zsA, zsZ, zsS]
  refine wpAnyH_done (by kernel_rfl) ?_ _
  go_wp2
  obtain ⟨q1, q2⟩ := H8.out.done E HE0.out
  exact bodyPost_ret (results_cell2 Tryz.results91 rfl (ld_some q1 (ldr_ip _ _ _))) rfl ⟨by rw [HR.out]; rfl, q2⟩
theorem read5_any (s : List UInt8) (hs : s.length ≤ 100000) (w : World) :
    Calls Tryz.prog 91 #[.string (Str s)] w fun x w' => x = .returned (.tuple #[.agg (ipC (readV5 s).1).toArray, .int .i64 (readV5 s).2]) ∧ Below w.heap.size w w' := by
  by_cases hE : hdE s = 0
  · by_cases h1 : allN s < hdN s
    · exact read5_tot s hs hE h1 w
    by_cases h2 : s.length < allN s
    · exact read5_end s hs hE h1 h2 w
    by_cases h3 : wd s 6 % 16384 ≠ 0
    · exact read5_frag s hs hE h1 h2 h3 w
    by_cases h4 : (optS s).2 = false
    · exact read5_opt s hs hE h1 h2 h3 h4 w
    by_cases h5 : 1400 < allN s - hdN s
    · exact read5_long s hs hE h1 h2 h3 h4 h5 w
    · exact read5_good s hs (by rw [why5_hd hE]; unfold bdE; rw [if_neg h1, if_neg h2, if_neg h3, if_neg h4, if_neg h5]) w
  · exact read5_hd s hs hE w
end Go.Proofs.YtlbdehegknehiaaGreat

/- A part of the proof. -/
namespace Go.Proofs.YtlbdehegknehiaaGreat
set_option maxRecDepth 100000
set_option maxHeartbeats 4000000
open Go.RowKit
set_option linter.unusedVariables false
set_option linter.unusedSimpArgs false
attribute [local go_sem ↓] ld_addr st_addr bld_addr ld_tk st_tk bld_tk ld_sd st_sd bld_sd bld_mac bld_b16
attribute [local go_sem] ldr_addr str_addr ldr_tk str_tk ldr_sd str_sd row?_drewN_eq row?_drew_eq
def gJ : AD := (false, [239, 1, 2, 3, 0, 0, 0, 0, 0, 0, 0, 0, 0, 0, 0, 0])
def fJ : AD := (false, [10, 0, 0, 1, 0, 0, 0, 0, 0, 0, 0, 0, 0, 0, 0, 0])
def tJ : TK := ⟨false, 2, 2, 0, gJ, false, 0, 0, [], []⟩
def joinS : SD := ⟨1, 5, fJ, gJ, tJ, 0, 0, []⟩
def jbL : List UInt8 := [1, 0, 94, 1, 2, 3, 2, 0, 0, 0, 0, 0, 129, 0, 0, 5, 8, 0, 70, 0, 0, 32, 0, 0, 0, 0, 1, 2, 41, 211, 10, 0, 0, 1, 239, 1, 2, 3, 148, 4, 0, 0, 22, 0, 248, 250, 239, 1, 2, 3]
def jbP : List UInt8 := [70, 0, 0, 32, 0, 0, 0, 0, 1, 2, 41, 211, 10, 0, 0, 1, 239, 1, 2, 3, 148, 4, 0, 0, 22, 0, 248, 250, 239, 1, 2, 3]
def jbT : List UInt8 := [22, 0, 248, 250, 239, 1, 2, 3]
def macJ : List UInt8 := [2, 0, 0, 0, 0, 0]
def ethJ : Eth := ⟨[1, 0, 94, 1, 2, 3], macJ, true, 5, 0, 2048, jbP⟩
def ipJ : Ip := ⟨0, 0, 1, 2, false, fJ.2, false, gJ.2, true, jbT⟩
def pkJ : PK := ⟨fJ, gJ, 2, 1, true, jbT⟩
theorem joinS_ok : joinS.ok := ⟨rfl, rfl, rfl, fun a h => (by cases h), fun r h => (by cases h)⟩
theorem pkJ_ok : pkJ.ok := ⟨rfl, rfl⟩
theorem j_good : goodS joinS = true := by decide +kernel
theorem j_g8 : good8 tJ = true := by decide +kernel
theorem j_wrtT : wrtT tJ = jbT := by decide +kernel
theorem j_pk : goodPk pkJ = true := by decide +kernel
theorem j_pkB : pkB pkJ = jbP := by decide +kernel
theorem j_eth : ethJ.good = true := by decide +kernel
theorem j_ethW : ethJ.wrt = jbL := by decide +kernel
theorem j_rE : readV4 jbL = (ethJ, 0) := by
  unfold readV4
  rw [if_pos (by decide +kernel), show tgV jbL = true by decide +kernel, show vlV jbL = 5 by decide +kernel, show prV jbL = 0 by decide +kernel, show tyV jbL = 2048 by decide +kernel, show bdV jbL = jbP by decide +kernel, show jbL.take 6 = [1, 0, 94, 1, 2, 3] by decide +kernel, show (jbL.drop 6).take 6 = macJ by decide +kernel]
  rfl
theorem j_rP : readV5 jbP = (ipJ, 0) := by unfold readV5; rw [if_pos (by decide +kernel)]; unfold ipOf; rw [show (optS jbP).1 = true by decide +kernel, show by8 jbP 1 = 0 by decide +kernel, show wd jbP 4 = 0 by decide +kernel, show by8 jbP 8 = 1 by decide +kernel, show by8 jbP 9 = 2 by decide +kernel, show readV ((jbP.drop 12).take 4) = fJ.2 by decide +kernel, show readV ((jbP.drop 16).take 4) = gJ.2 by decide +kernel, show (jbP.drop (hdN jbP)).take (allN jbP - hdN jbP) = jbT by decide +kernel]; rfl
theorem j_rT : readT jbT = (tJ, 0) := by decide +kernel
theorem j_is : isTk pkJ = true := by decide +kernel
theorem j_rf : rfV ethJ 0 pkJ 0 (rtV 5 pkJ tJ 0 true) = (joinS, 0) := by
  have h : rtV 5 pkJ tJ 0 true = (joinS, 0) := by
    unfold rtV
    rw [if_neg (by decide), if_neg (by decide)]
    rfl
  rw [h]
  unfold rfV
  rw [if_neg (by decide), if_neg (by decide), if_neg (by decide), if_neg (by decide +kernel), if_neg (by decide +kernel), if_neg (by decide +kernel), if_pos j_is]
theorem writeJ_any (w : World) : Calls Tryz.prog 7 #[.agg (sdC joinS (.slice none 0 0) (.slice none 0 0)).toArray, .agg (B8 macJ).toArray] w fun x w' => x = .returned (.tuple #[.string (Str jbL), .int .i64 0]) ∧ Below w.heap.size w w' := by
  have hs := fun W => Ads.nil W
  have hr := fun W => Rcs.nil W
  refine writeF_core joinS _ _ w joinS_ok macJ rfl pkJ 2048 jbP jbL ?_ ?_ ?_ ?_ ?_
  · intro W _
    have h := goodS_any joinS (.slice none 0 0) (.slice none 0 0) W joinS_ok (hs W) (hr W) (by decide) (by decide)
    rw [j_good] at h
    exact h
  · intro _ W _
    refine talkP_core joinS (.slice none 0 0) (.slice none 0 0) W joinS_ok jbT 0 ?_ ?_
    · intro _ W2 _
      have h := write8_any tJ (.slice none 0 0) (.slice none 0 0) W2 joinS_ok.2.2 (hs W2) (hr W2) (by decide)
      rw [j_g8, j_wrtT] at h
      exact h
    · intro h; cases h
  · intro h; exact absurd rfl h
  · intro W
    have h := writePk4_any pkJ pkJ_ok (by decide) rfl j_pk W
    rw [j_pkB] at h
    exact h
  · intro W
    have h := write_good ethJ ⟨rfl, rfl⟩ j_eth W
    rw [j_ethW] at h
    exact h
theorem readJ_any (w : World) : Calls Tryz.prog 13 #[.string (Str jbL)] w fun x w' => SdR w joinS 0 x w' := by
  have h := readF_core jbL ethJ ⟨rfl, rfl⟩ 0 pkJ pkJ_ok (by decide) 0 (rtV 5 pkJ tJ 0 true) w ?_ ?_ ?_
  · rw [j_rf] at h
    exact h
  · intro W
    have h := read_any jbL (by decide) W
    rw [j_rE] at h
    exact h
  · intro _ _ W
    exact readPk_core 2048 jbP ipJ ⟨rfl, rfl⟩ 0 W (fun h => absurd h (by decide)) (fun _ W2 => by
      have h := read5_any jbP (by decide) W2
      rw [j_rP] at h
      exact h)
  · intro _ _ W
    exact readTk_core 5 pkJ pkJ_ok tJ joinS_ok.2.2 0 true W (fun W2 => takeT_core pkJ pkJ_ok tJ 0 W2 (fun h => by cases h) (fun _ W3 => by
      have h := read8_typ jbT (by decide) W3
      unfold ReadP at h
      rw [j_rT] at h
      exact h)) (fun _ us ur W2 hs hr => by
      have h := goodS_any joinS us ur W2 joinS_ok hs hr (by decide) (by decide)
      rw [j_good] at h
      exact h)
theorem bld_g16 (w : World) : (aggBuild 22 #[(0, .int .u8 239), (1, .int .u8 1), (2, .int .u8 2), (3, .int .u8 3)]).run Tryz.prog w = .ok (.agg (B8 gJ.2).toArray) w := bld_run _ _ _ (by kernel_rfl) _
theorem bld_f16 (w : World) : (aggBuild 22 #[(0, .int .u8 10), (1, .int .u8 0), (2, .int .u8 0), (3, .int .u8 1)]).run Tryz.prog w = .ok (.agg (B8 fJ.2).toArray) w := bld_run _ _ _ (by kernel_rfl) _
theorem bld_gA (w : World) : (aggBuild 24 #[(1, .agg (B8 gJ.2).toArray)]).run Tryz.prog w = .ok (.agg (adC gJ).toArray) w := bld_run _ _ _ (by kernel_rfl) _
theorem bld_fA (w : World) : (aggBuild 24 #[(1, .agg (B8 fJ.2).toArray)]).run Tryz.prog w = .ok (.agg (adC fJ).toArray) w := bld_run _ _ _ (by kernel_rfl) _
theorem bld_tJ (w : World) : (aggBuild 28 #[(1, .int .i64 2), (2, .int .i64 2), (4, .agg (adC gJ).toArray)]).run Tryz.prog w = .ok (.agg (tkC tJ (.slice none 0 0) (.slice none 0 0)).toArray) w := bld_run _ _ _ (by kernel_rfl) _
theorem bld_sJ (w : World) : (aggBuild 30 #[(0, .int .i64 1), (1, .int .i64 5), (2, .agg (adC fJ).toArray), (3, .agg (adC gJ).toArray), (4, .agg (tkC tJ (.slice none 0 0) (.slice none 0 0)).toArray)]).run Tryz.prog w = .ok (.agg (sdC joinS (.slice none 0 0) (.slice none 0 0)).toArray) w := bld_run _ _ _ (by kernel_rfl) _
theorem bld_mJ (w : World) : (aggBuild 32 #[(0, .int .u8 2)]).run Tryz.prog w = .ok (.agg (B8 macJ).toArray) w := bld_run _ _ _ (by kernel_rfl) _
theorem joinF_any (w : World) : Calls Tryz.prog 36 #[] w fun x w' => x = .returned (.agg (sdC joinS (.slice none 0 0) (.slice none 0 0)).toArray) ∧ Below w.heap.size w w' := by
  have H0 := zh (ObjAt.made w Tryz.zeroCells30 30)
  have HB := zh (bbox w (.cells Tryz.zeroCells30 30))
  have b1 := bld_g16
  have b2 := bld_gA
  have b3 := bld_f16
  have b4 := bld_fA
  have b5 := bld_tJ
  have b6 := bld_sJ
  have hkg := fok_addr gJ.1 gJ.2 rfl
  rw [show addrC gJ.1 gJ.2 = adC gJ from rfl] at hkg
  have hks : fok (sdC joinS (.slice none 0 0) (.slice none 0 0)).toArray 65 = true := fok_sd rfl rfl rfl rfl rfl
  have HLS := zh (sdC_length (s := joinS) rfl rfl rfl (.slice none 0 0) (.slice none 0 0))
  have HLG : Hid ((adC gJ).length = 17) := zh rfl
  have HON := zh (addrC_one gJ.1 gJ.2)
  rw [show addrC gJ.1 gJ.2 = adC gJ from rfl] at HON
  generalize sdC joinS (.slice none 0 0) (.slice none 0 0) = LS at b6 hks HLS ⊢
  generalize tkC tJ (.slice none 0 0) (.slice none 0 0) = LT at b5 b6
  generalize adC gJ = LG at b2 b5 b6 hkg HLG HON
  generalize adC fJ = LF at b4 b6
  generalize B8 gJ.2 = BG at b1 b2
  generalize B8 fJ.2 = BF at b3 b4
  have hfm := fun W => fmade W zz17 24 17 rfl
  go_enter Tryz.func36, Tryz.ntmps36
  go_upto_region 1 with (fail)
  generalize w.alloc _ = W at H0 HB ⊢
  have H2 := zh (Bo2.made (Z := zz17) (U := 24) (L := LG) H0.out HB.out HLG.out HON.out)
  go_upto_region 2 with (fail)
  generalize aggW (W.alloc _) W.heap.size _ = W2 at H2 ⊢
  generalize W.heap.size = m at H2 ⊢
  clear hfm b1 b2 hkg H0 HB
  have rg : row? W2 m 0 17 = some LG := obj_re H2.out.two (A := []) (M := LG) (C := []) (by simp) rfl HLG.out
  have hfr := obj_free_at H2.out.one 0 65 (Nat.le_refl _)
  go_wp2
  obtain ⟨q1, q2⟩ := resDone H2.out.one H2.out.blw (Nat.le_refl _) LS HLS.out
  exact bodyPost_ret (results_cell Tryz.results36 rfl (ld_some q1 (ldr_sd _ _ _))) rfl ⟨rfl, q2⟩
theorem livesF_any (w : World) : Calls Tryz.prog 12 #[] w fun x w' => x = .returned (.bool true) ∧ Below w.heap.size w w' := by
  have HJ := zh joinF_any
  have HWJ := zh writeJ_any
  have HRJ := zh readJ_any
  have b1 := bld_mJ
  have hsz := Str_size jbL
  rw [show jbL.length = 50 from rfl] at hsz
  have hfm := fun W => fmade W Tryz.zeroCells30 30 65 rfl
  have HL := zh (fun us ur => sdC_length (s := joinS) rfl rfl rfl us ur)
  have HV := zh (fun W m us ur (h : ObjAt W m (sdC joinS us ur).toArray 30) => SV.of h rfl rfl rfl)
  generalize sdC joinS (.slice none 0 0) (.slice none 0 0) = LS at HJ HWJ
  generalize Str jbL = BJ at HWJ HRJ hsz
  generalize B8 macJ = BM at b1 HWJ
  go_enter Tryz.func12, Tryz.ntmps12
  go_upto_region 2 with (first
    | (go_at_call 36; (with_reducible refine (HJ.out _).mono ?_); rintro x w1 ⟨rfl, hb⟩; have HB := zh hb; clear hb)
    | (go_at_call 7; (with_reducible refine (HWJ.out _).mono ?_); rintro x w2 ⟨rfl, hb⟩; replace HB := zh (bstep HB.out hb); clear hb))
  go_upto_region 3 with (first
    | (go_at_call 13; (with_reducible refine (HRJ.out _).mono ?_); rintro x w3 ⟨us, ur, rfl, hb, ho, hs, hr⟩; replace HB := zh (bstep HB.out hb); have HS := zh hs; have HR := zh hr; clear hb ho hs hr; have hks : fok (sdC joinS us ur).toArray 65 = true := fok_sd rfl rfl rfl HS.out.1.one HR.out.rcs.one))
  have HO := zh (newObj w3 Tryz.zeroCells30 30 (L := sdC joinS us ur) (HL.out us ur) (sdC_one HS.out.1.one HR.out.rcs.one))
  replace HB := zh (bstep HB.out (newBlw w3 (.cells Tryz.zeroCells30 30) (sdC joinS us ur)))
  generalize aggW (w3.alloc _) w3.heap.size _ = W4 at HO HB ⊢
  generalize w3.heap.size = m at HO ⊢
  obtain ⟨-, ⟨c0, c1, -, -⟩, ⟨-, -, c2⟩, -⟩ := HV.out _ _ _ _ HO.out
  rw [show joinS.kind = 1 from rfl] at c0
  rw [show joinS.vl = 5 from rfl] at c1
  rw [show joinS.tk.kind = 2 from rfl] at c2
  clear hfm hks b1
  go_wp2
  go_ret
  exact ⟨rfl, HB.out⟩
end Go.Proofs.YtlbdehegknehiaaGreat

