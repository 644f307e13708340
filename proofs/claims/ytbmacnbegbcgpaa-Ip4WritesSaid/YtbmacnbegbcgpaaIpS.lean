/-
  The contract of ip4.Read, of good bytes and of any.
-/
import Derived.Test.YtbmacnbegbcgpaaIpR
namespace Go.Proofs.Ytbmacnbegbcgpaa
open Go.RowKit
set_option linter.unusedVariables false
attribute [local go_sem ↓] bld_ip ld_ip st_ip ld_addr st_addr
attribute [local go_sem] ldr_ip str_ip ldr_addr str_addr

theorem lt_size {s : List UInt8} {i : Nat} (h : (i : Int) < (s.length : Int)) : i < (Str s).size := by rw [Str_size]; omega
set_option maxRecDepth 100000 in
set_option maxHeartbeats 4000000 in
theorem read5_good (s : List UInt8) (hs : s.length ≤ 100000) (hy : why5 s = 0) (w : World) :
    Calls Try.prog 12 #[.string (Str s)] w fun x w' => x = .returned (.tuple #[.agg (ipC (readV5 s).1).toArray, .int .i64 (readV5 s).2]) ∧ Below w.heap.size w w' := by
  have HR := Lib.hid (show readV5 s = (ipOf s, 0) by unfold readV5; rw [if_pos hy])
  obtain ⟨hE, hB⟩ := why5_zero hy
  obtain ⟨a1, a2, a3, a4, a5, a6⟩ := hdE_zero hE
  obtain ⟨c1, c2, c3, c4, c5⟩ := bdE_zero hB
  have HX := RdH.of hs hE
  have HH := Lib.hid HX.hd
  have HW2 := Lib.hid HX.w2
  have HW4 : Hid (∀ W : World, Calls Try.prog 26 #[.string (Str s), .int .i64 4] W fun x w' => x = .returned (.int .i64 (wd s 4)) ∧ Below W.heap.size W w') := Lib.hid fun W => (HX.w4 W).mono fun x w' h => ⟨h.1, bsame (Below.refl _ _) h.2⟩
  have HW6 := Lib.hid HX.w6
  have HOP := HX.op
  rw [c4] at HOP
  have HO := Lib.hid HOP
  have hsz := Str_size s
  have hszH : (Str (s.take (hdN s))).size = hdN s := by rw [Str_size, List.length_take]; omega
  have hn20 : (20 : Int) ≤ (hdN s : Int) := by omega
  have hfr := and_frag (wd s 6) (wd_lt s 6 (by omega))
  rw [c3] at hfr
  have hwm : IntKind.i64.wrap ((allN s : Int) - (hdN s : Int)) = (allN s : Int) - (hdN s : Int) := by simp only [IntKind.wrap_i64]; omega
  have hq1 : ¬ (allN s : Int) < (hdN s : Int) := by omega
  have hq2 : ¬ (s.length : Int) < (allN s : Int) := by omega
  have hq5 : ¬ (1400 : Int) < (allN s : Int) - (hdN s : Int) := by omega
  have hn0 : (0 : Int) ≤ (hdN s : Int) := by omega
  have hnt : (hdN s : Int) ≤ (allN s : Int) := by omega
  have htl : (allN s : Int) ≤ (s.length : Int) := by omega
  have hex : (Str s).extract (hdN s) (allN s) = Str ((s.drop (hdN s)).take (allN s - hdN s)) := Str_extract s _ _
  have hE0 := ipOf_ok s
  have hcl := ipOf_cells s a1
  have hbl := fun w0 => bld_of (by8 s 1 : Int) (wd s 4 : Int) (by8 s 8 : Int) (by8 s 9 : Int) (by8 s 12 : Int) (by8 s 13 : Int) (by8 s 14 : Int) (by8 s 15 : Int) (by8 s 16 : Int) (by8 s 17 : Int) (by8 s 18 : Int) (by8 s 19 : Int) (optS s).1 (Str ((s.drop (hdN s)).take (allN s - hdN s))) w0
  rw [← hcl] at hbl
  have hfok := fok_ip hE0
  have HE0 := Lib.hid hE0
  have i1 : (1 : Int) < (s.length : Int) := by omega
  have e1 := Str_at s 1 (lt_size i1)
  have u1 := by8_lt s 1
  have i8 : (8 : Int) < (s.length : Int) := by omega
  have e8 := Str_at s 8 (lt_size i8)
  have u8 := by8_lt s 8
  have i9 : (9 : Int) < (s.length : Int) := by omega
  have e9 := Str_at s 9 (lt_size i9)
  have u9 := by8_lt s 9
  have i12 : (12 : Int) < (s.length : Int) := by omega
  have e12 := Str_at s 12 (lt_size i12)
  have u12 := by8_lt s 12
  have i13 : (13 : Int) < (s.length : Int) := by omega
  have e13 := Str_at s 13 (lt_size i13)
  have u13 := by8_lt s 13
  have i14 : (14 : Int) < (s.length : Int) := by omega
  have e14 := Str_at s 14 (lt_size i14)
  have u14 := by8_lt s 14
  have i15 : (15 : Int) < (s.length : Int) := by omega
  have e15 := Str_at s 15 (lt_size i15)
  have u15 := by8_lt s 15
  have i16 : (16 : Int) < (s.length : Int) := by omega
  have e16 := Str_at s 16 (lt_size i16)
  have u16 := by8_lt s 16
  have i17 : (17 : Int) < (s.length : Int) := by omega
  have e17 := Str_at s 17 (lt_size i17)
  have u17 := by8_lt s 17
  have i18 : (18 : Int) < (s.length : Int) := by omega
  have e18 := Str_at s 18 (lt_size i18)
  have u18 := by8_lt s 18
  have i19 : (19 : Int) < (s.length : Int) := by omega
  have e19 := Str_at s 19 (lt_size i19)
  have u19 := by8_lt s 19
  have v1 : IntKind.i64.wrap (by8 s 1 : Int) = (by8 s 1 : Int) := by simp only [IntKind.wrap_i64]; omega
  have v8 : IntKind.i64.wrap (by8 s 8 : Int) = (by8 s 8 : Int) := by simp only [IntKind.wrap_i64]; omega
  have v9 : IntKind.i64.wrap (by8 s 9 : Int) = (by8 s 9 : Int) := by simp only [IntKind.wrap_i64]; omega
  have HI1 : Hid (∀ W : World, Calls Try.prog 28 #[.int .u8 (by8 s 12 : Int), .int .u8 (by8 s 13 : Int), .int .u8 (by8 s 14 : Int), .int .u8 (by8 s 15 : Int)] W fun e w' => e = .returned (.agg #[.bool false, .int .u8 (by8 s 12 : Int), .int .u8 (by8 s 13 : Int), .int .u8 (by8 s 14 : Int), .int .u8 (by8 s 15 : Int), .int .u8 0, .int .u8 0, .int .u8 0, .int .u8 0, .int .u8 0, .int .u8 0, .int .u8 0, .int .u8 0, .int .u8 0, .int .u8 0, .int .u8 0, .int .u8 0]) ∧ Below W.heap.size W w') := Lib.hid fun W => ip4_any _ _ _ _ W
  have HI2 : Hid (∀ W : World, Calls Try.prog 28 #[.int .u8 (by8 s 16 : Int), .int .u8 (by8 s 17 : Int), .int .u8 (by8 s 18 : Int), .int .u8 (by8 s 19 : Int)] W fun e w' => e = .returned (.agg #[.bool false, .int .u8 (by8 s 16 : Int), .int .u8 (by8 s 17 : Int), .int .u8 (by8 s 18 : Int), .int .u8 (by8 s 19 : Int), .int .u8 0, .int .u8 0, .int .u8 0, .int .u8 0, .int .u8 0, .int .u8 0, .int .u8 0, .int .u8 0, .int .u8 0, .int .u8 0, .int .u8 0, .int .u8 0]) ∧ Below W.heap.size W w') := Lib.hid fun W => ip4_any _ _ _ _ W
  have h0 := RI.start w
  rw [zeroI_cells] at h0
  have H0 := Lib.hid h0
  clear h0 HX HOP a1 a2 a3 a4 a5 a6 hs hE c1 c2 c3 c4 c5 hy hB hcl hE0
  generalize ipOf s = E at *
  generalize (optS s).1 = o1 at *
  generalize Str ((s.drop (hdN s)).take (allN s - hdN s)) = B at *
  generalize hdN s = n at *
  generalize allN s = t at *
  generalize wd s 6 = fr at *
  generalize wd s 4 = w4 at *
  generalize by8 s 1 = b1 at *
  generalize by8 s 8 = b8 at *
  generalize by8 s 9 = b9 at *
  generalize by8 s 12 = b12 at *
  generalize by8 s 13 = b13 at *
  generalize by8 s 14 = b14 at *
  generalize by8 s 15 = b15 at *
  generalize by8 s 16 = b16 at *
  generalize by8 s 17 = b17 at *
  generalize by8 s 18 = b18 at *
  generalize by8 s 19 = b19 at *
  generalize Str (s.take n) = S at *
  go_enter Try.func12, Try.ntmps12
  go_upto_region 1 with (fail)
  generalize w.alloc (.cells #[.int .i64 0, .int .i64 0, .int .i64 0, .int .i64 0, .bool false, .int .u8 0, .int .u8 0, .int .u8 0, .int .u8 0, .int .u8 0, .int .u8 0, .int .u8 0, .int .u8 0, .int .u8 0, .int .u8 0, .int .u8 0, .int .u8 0, .int .u8 0, .int .u8 0, .int .u8 0, .int .u8 0, .bool false, .int .u8 0, .int .u8 0, .int .u8 0, .int .u8 0, .int .u8 0, .int .u8 0, .int .u8 0, .int .u8 0, .int .u8 0, .int .u8 0, .int .u8 0, .int .u8 0, .int .u8 0, .int .u8 0, .int .u8 0, .int .u8 0, .bool false, .string ⟨#[]⟩] 26) = W at H0 ⊢
  go_upto_region 16 with (first
    | (go_at_call 25; (with_reducible refine (HH.out _).mono ?_); rintro x w1 ⟨rfl, hb1⟩; have H1 := Lib.hid (H0.out.below hb1); clear hb1)
    | (go_at_call 26; (with_reducible refine (HW2.out _).mono ?_); rintro x w2 ⟨rfl, d2, rfl⟩)
    | (go_at_call 27; (with_reducible refine (HO.out _).mono ?_); rintro x w3 ⟨rfl, rfl⟩)
    | (go_at_call 26; (with_reducible refine (HW6.out _).mono ?_); rintro x w4 ⟨rfl, d4, rfl⟩; have H3 := Lib.hid (H1.out.drewN (d2 + d4))))
  generalize w1.drewN (d2 + d4) = W5 at H3 ⊢
  clear H1 H0 hq1 hq2 hq5 hfr hwm
  refine wp_region_held_drew (S := fun _ => True) (by kernel_rfl) (trivial) (fun hHeld => ?_)
  refine wpAnyH_take (i := 0) (oi := { dst := some 55, op := _, type := _, pos := _, after := _, guard := _ }) (v := ?v1) rfl (by kernel_rfl) (by kernel_rfl) (by kernel_rfl) (fun _ _ _ h => h) (Or.inl ⟨by rfl, ?y1⟩) (by assumption) ?r1
  case y1 => (intro w hSw; go_simp; try with_reducible rfl)
  try simp only [Act.put, List.setIfInBounds_toArray, List.set_cons_zero, List.set_cons_succ]
  refine wpAnyH_take (i := 1) (oi := { dst := some 56, op := _, type := _, pos := _, after := _, guard := _ }) (v := ?v2) rfl (by kernel_rfl) (by kernel_rfl) (by kernel_rfl) (fun _ _ _ h => h) (Or.inl ⟨by rfl, ?y2⟩) (by assumption) ?r2
  case y2 => (intro w hSw; go_simp; try with_reducible rfl)
  try simp only [Act.put, List.setIfInBounds_toArray, List.set_cons_zero, List.set_cons_succ]
  refine wpAnyH_take (i := 2) (oi := { dst := some 57, op := _, type := _, pos := _, after := _, guard := _ }) (v := ?v3) rfl (by kernel_rfl) (by kernel_rfl) (by kernel_rfl) (fun _ _ _ h => h) (Or.inl ⟨by rfl, ?y3⟩) (by assumption) ?r3
  case y3 => (intro w hSw; go_simp; try with_reducible rfl)
  try simp only [Act.put, List.setIfInBounds_toArray, List.set_cons_zero, List.set_cons_succ]
  refine wpAnyH_take (i := 3) (oi := { dst := some 58, op := _, type := _, pos := _, after := _, guard := _ }) (v := ?v4) rfl (by kernel_rfl) (by kernel_rfl) (by kernel_rfl) (fun _ _ _ h => h) (Or.inl ⟨by rfl, ?y4⟩) (by assumption) ?r4
  case y4 => (intro w hSw; go_simp; try with_reducible rfl)
  try simp only [Act.put, List.setIfInBounds_toArray, List.set_cons_zero, List.set_cons_succ]
  refine wpAnyH_take (i := 5) (oi := { dst := some 60, op := _, type := _, pos := _, after := _, guard := _ }) (v := ?v5) rfl (by kernel_rfl) (by kernel_rfl) (by kernel_rfl) (fun _ _ _ h => h) (Or.inl ⟨by rfl, ?y5⟩) (by assumption) ?r5
  case y5 => (intro w hSw; go_simp; try with_reducible rfl)
  try simp only [Act.put, List.setIfInBounds_toArray, List.set_cons_zero, List.set_cons_succ]
  refine wpAnyH_take (i := 6) (oi := { dst := some 61, op := _, type := _, pos := _, after := _, guard := _ }) (v := ?v6) rfl (by kernel_rfl) (by kernel_rfl) (by kernel_rfl) (fun _ _ _ h => h) (Or.inl ⟨by rfl, ?y6⟩) (by assumption) ?r6
  case y6 => (intro w hSw; go_simp; try with_reducible rfl)
  try simp only [Act.put, List.setIfInBounds_toArray, List.set_cons_zero, List.set_cons_succ]
  refine wpAnyH_take (i := 7) (oi := { dst := some 62, op := _, type := _, pos := _, after := _, guard := _ }) (v := ?v7) rfl (by kernel_rfl) (by kernel_rfl) (by kernel_rfl) (fun _ _ _ h => h) (Or.inl ⟨by rfl, ?y7⟩) (by assumption) ?r7
  case y7 => (intro w hSw; go_simp; try with_reducible rfl)
  try simp only [Act.put, List.setIfInBounds_toArray, List.set_cons_zero, List.set_cons_succ]
  refine wpAnyH_take (i := 8) (oi := { dst := some 63, op := _, type := _, pos := _, after := _, guard := _ }) (v := ?v8) rfl (by kernel_rfl) (by kernel_rfl) (by kernel_rfl) (fun _ _ _ h => h) (Or.inl ⟨by rfl, ?y8⟩) (by assumption) ?r8
  case y8 => (intro w hSw; go_simp; try with_reducible rfl)
  try simp only [Act.put, List.setIfInBounds_toArray, List.set_cons_zero, List.set_cons_succ]
  refine wpAnyH_take (i := 9) (oi := { dst := some 64, op := _, type := _, pos := _, after := _, guard := _ }) (v := ?v9) rfl (by kernel_rfl) (by kernel_rfl) (by kernel_rfl) (fun _ _ _ h => h) (Or.inl ⟨by rfl, ?y9⟩) (by assumption) ?r9
  case y9 => (intro w hSw; go_simp; try with_reducible rfl)
  try simp only [Act.put, List.setIfInBounds_toArray, List.set_cons_zero, List.set_cons_succ]
  refine wpAnyH_take (i := 10) (oi := { dst := some 65, op := _, type := _, pos := _, after := _, guard := _ }) (v := ?v10) rfl (by kernel_rfl) (by kernel_rfl) (by kernel_rfl) (fun _ _ _ h => h) (Or.inl ⟨by rfl, ?y10⟩) (by assumption) ?r10
  case y10 => (intro w hSw; go_simp; try with_reducible rfl)
  try simp only [Act.put, List.setIfInBounds_toArray, List.set_cons_zero, List.set_cons_succ]
  refine wpAnyH_take (i := 11) (oi := { dst := some 66, op := _, type := _, pos := _, after := _, guard := _ }) (v := ?v11) rfl (by kernel_rfl) (by kernel_rfl) (by kernel_rfl) (fun _ _ _ h => h) (Or.inl ⟨by rfl, ?y11⟩) (by assumption) ?r11
  case y11 => (intro w hSw; go_simp; try with_reducible rfl)
  try simp only [Act.put, List.setIfInBounds_toArray, List.set_cons_zero, List.set_cons_succ]
  refine wpAnyH_take (i := 12) (oi := { dst := some 67, op := _, type := _, pos := _, after := _, guard := _ }) (v := ?v12) rfl (by kernel_rfl) (by kernel_rfl) (by kernel_rfl) (fun _ _ _ h => h) (Or.inl ⟨by rfl, ?y12⟩) (by assumption) ?r12
  case y12 => (intro w hSw; go_simp; try with_reducible rfl)
  try simp only [Act.put, List.setIfInBounds_toArray, List.set_cons_zero, List.set_cons_succ]
  refine wpAnyH_take (i := 13) (oi := { dst := some 68, op := _, type := _, pos := _, after := _, guard := _ }) (v := ?v13) rfl (by kernel_rfl) (by kernel_rfl) (by kernel_rfl) (fun _ _ _ h => h) (Or.inl ⟨by rfl, ?y13⟩) (by assumption) ?r13
  case y13 => (intro w hSw; go_simp; try with_reducible rfl)
  try simp only [Act.put, List.setIfInBounds_toArray, List.set_cons_zero, List.set_cons_succ]
  refine wpAnyH_take (i := 14) (oi := { dst := some 69, op := _, type := _, pos := _, after := _, guard := _ }) (v := ?v14) rfl (by kernel_rfl) (by kernel_rfl) (by kernel_rfl) (fun _ _ _ h => h) (Or.inl ⟨by rfl, ?y14⟩) (by assumption) ?r14
  case y14 => (intro w hSw; go_simp; try with_reducible rfl)
  try simp only [Act.put, List.setIfInBounds_toArray, List.set_cons_zero, List.set_cons_succ]
  refine wpAnyH_take (i := 15) (oi := { dst := some 70, op := _, type := _, pos := _, after := _, guard := _ }) (v := ?v15) rfl (by kernel_rfl) (by kernel_rfl) (by kernel_rfl) (fun _ _ _ h => h) (Or.inl ⟨by rfl, ?y15⟩) (by assumption) ?r15
  case y15 => (intro w hSw; go_simp; try with_reducible rfl)
  try simp only [Act.put, List.setIfInBounds_toArray, List.set_cons_zero, List.set_cons_succ]
  refine wpAnyH_take (i := 16) (oi := { dst := some 71, op := _, type := _, pos := _, after := _, guard := _ }) (v := ?v16) rfl (by kernel_rfl) (by kernel_rfl) (by kernel_rfl) (fun _ _ _ h => h) (Or.inl ⟨by rfl, ?y16⟩) (by assumption) ?r16
  case y16 => (intro w hSw; go_simp; try with_reducible rfl)
  try simp only [Act.put, List.setIfInBounds_toArray, List.set_cons_zero, List.set_cons_succ]
  refine wpAnyH_take (i := 17) (oi := { dst := some 72, op := _, type := _, pos := _, after := _, guard := _ }) (v := ?v17) rfl (by kernel_rfl) (by kernel_rfl) (by kernel_rfl) (fun _ _ _ h => h) (Or.inl ⟨by rfl, ?y17⟩) (by assumption) ?r17
  case y17 => (intro w hSw; go_simp; try with_reducible rfl)
  try simp only [Act.put, List.setIfInBounds_toArray, List.set_cons_zero, List.set_cons_succ]
  refine wpAnyH_take (i := 18) (oi := { dst := some 73, op := _, type := _, pos := _, after := _, guard := _ }) (v := ?v18) rfl (by kernel_rfl) (by kernel_rfl) (by kernel_rfl) (fun _ _ _ h => h) (Or.inl ⟨by rfl, ?y18⟩) (by assumption) ?r18
  case y18 => (intro w hSw; go_simp; try with_reducible rfl)
  try simp only [Act.put, List.setIfInBounds_toArray, List.set_cons_zero, List.set_cons_succ]
  refine wpAnyH_take (i := 20) (oi := { dst := some 75, op := _, type := _, pos := _, after := _, guard := _ }) (v := ?v19) rfl (by kernel_rfl) (by kernel_rfl) (by kernel_rfl) (fun _ _ _ h => h) (Or.inl ⟨by rfl, ?y19⟩) (by assumption) ?r19
  case y19 => (intro w hSw; go_simp; try with_reducible rfl)
  try simp only [Act.put, List.setIfInBounds_toArray, List.set_cons_zero, List.set_cons_succ]
  refine wpAnyH_take (i := 21) (oi := { dst := some 76, op := _, type := _, pos := _, after := _, guard := _ }) (v := ?v20) rfl (by kernel_rfl) (by kernel_rfl) (by kernel_rfl) (fun _ _ _ h => h) (Or.inl ⟨by rfl, ?y20⟩) (by assumption) ?r20
  case y20 => (intro w hSw; go_simp; try with_reducible rfl)
  try simp only [Act.put, List.setIfInBounds_toArray, List.set_cons_zero, List.set_cons_succ]
  refine wpAnyH_take (i := 22) (oi := { dst := some 77, op := _, type := _, pos := _, after := _, guard := _ }) (v := ?v21) rfl (by kernel_rfl) (by kernel_rfl) (by kernel_rfl) (fun _ _ _ h => h) (Or.inl ⟨by rfl, ?y21⟩) (by assumption) ?r21
  case y21 => (intro w hSw; go_simp; try with_reducible rfl)
  try simp only [Act.put, List.setIfInBounds_toArray, List.set_cons_zero, List.set_cons_succ]
  refine wpAnyH_take (i := 23) (oi := { dst := some 78, op := _, type := _, pos := _, after := _, guard := _ }) (v := ?v22) rfl (by kernel_rfl) (by kernel_rfl) (by kernel_rfl) (fun _ _ _ h => h) (Or.inl ⟨by rfl, ?y22⟩) (by assumption) ?r22
  case y22 => (intro w hSw; go_simp; try with_reducible rfl)
  try simp only [Act.put, List.setIfInBounds_toArray, List.set_cons_zero, List.set_cons_succ]
  refine wpAnyH_take (i := 24) (oi := { dst := some 79, op := _, type := _, pos := _, after := _, guard := _ }) (v := ?v23) rfl (by kernel_rfl) (by kernel_rfl) (by kernel_rfl) (fun _ _ _ h => h) (Or.inl ⟨by rfl, ?y23⟩) (by assumption) ?r23
  case y23 => (intro w hSw; go_simp; try with_reducible rfl)
  try simp only [Act.put, List.setIfInBounds_toArray, List.set_cons_zero, List.set_cons_succ]
  refine wpAnyH_take (i := 25) (oi := { dst := some 80, op := _, type := _, pos := _, after := _, guard := _ }) (v := ?v24) rfl (by kernel_rfl) (by kernel_rfl) (by kernel_rfl) (fun _ _ _ h => h) (Or.inl ⟨by rfl, ?y24⟩) (by assumption) ?r24
  case y24 => (intro w hSw; go_simp; try with_reducible rfl)
  try simp only [Act.put, List.setIfInBounds_toArray, List.set_cons_zero, List.set_cons_succ]
  refine wpAnyH_take (i := 26) (oi := { dst := some 81, op := _, type := _, pos := _, after := _, guard := _ }) (v := ?v25) rfl (by kernel_rfl) (by kernel_rfl) (by kernel_rfl) (fun _ _ _ h => h) (Or.inl ⟨by rfl, ?y25⟩) (by assumption) ?r25
  case y25 => (intro w hSw; go_simp; try with_reducible rfl)
  try simp only [Act.put, List.setIfInBounds_toArray, List.set_cons_zero, List.set_cons_succ]
  refine wpAnyH_take (i := 27) (oi := { dst := some 82, op := _, type := _, pos := _, after := _, guard := _ }) (v := ?v26) rfl (by kernel_rfl) (by kernel_rfl) (by kernel_rfl) (fun _ _ _ h => h) (Or.inl ⟨by rfl, ?y26⟩) (by assumption) ?r26
  case y26 => (intro w hSw; go_simp; try with_reducible rfl)
  try simp only [Act.put, List.setIfInBounds_toArray, List.set_cons_zero, List.set_cons_succ]
  refine wpAnyH_take (i := 29) (oi := { dst := some 84, op := _, type := _, pos := _, after := _, guard := _ }) (v := ?v27) rfl (by kernel_rfl) (by kernel_rfl) (by kernel_rfl) (fun _ _ _ h => h) (Or.inl ⟨by rfl, ?y27⟩) (by assumption) ?r27
  case y27 => (intro w hSw; go_simp; try with_reducible rfl)
  try simp only [Act.put, List.setIfInBounds_toArray, List.set_cons_zero, List.set_cons_succ]
  refine wpAnyH_take (i := 30) (oi := { dst := some 85, op := _, type := _, pos := _, after := _, guard := _ }) (v := ?v28) rfl (by kernel_rfl) (by kernel_rfl) (by kernel_rfl) (fun _ _ _ h => h) (Or.inl ⟨by rfl, ?y28⟩) (by assumption) ?r28
  case y28 => (intro w hSw; go_simp; try with_reducible rfl)
  try simp only [Act.put, List.setIfInBounds_toArray, List.set_cons_zero, List.set_cons_succ]
  refine wpAnyH_take (i := 31) (oi := { dst := some 86, op := _, type := _, pos := _, after := _, guard := _ }) (v := ?v29) rfl (by kernel_rfl) (by kernel_rfl) (by kernel_rfl) (fun _ _ _ h => h) (Or.inl ⟨by rfl, ?y29⟩) (by assumption) ?r29
  case y29 => (intro w hSw; go_simp; try with_reducible rfl)
  try simp only [Act.put, List.setIfInBounds_toArray, List.set_cons_zero, List.set_cons_succ]
  refine wpAnyH_take (i := 32) (oi := { dst := some 87, op := _, type := _, pos := _, after := _, guard := _ }) (v := ?v30) rfl (by kernel_rfl) (by kernel_rfl) (by kernel_rfl) (fun _ _ _ h => h) (Or.inl ⟨by rfl, ?y30⟩) (by assumption) ?r30
  case y30 => (intro w hSw; go_simp; try with_reducible rfl)
  try simp only [Act.put, List.setIfInBounds_toArray, List.set_cons_zero, List.set_cons_succ]
  refine wpAnyH_take (i := 33) (oi := { dst := some 88, op := _, type := _, pos := _, after := _, guard := _ }) (v := ?v31) rfl (by kernel_rfl) (by kernel_rfl) (by kernel_rfl) (fun _ _ _ h => h) (Or.inl ⟨by rfl, ?y31⟩) (by assumption) ?r31
  case y31 => (intro w hSw; go_simp; try with_reducible rfl)
  try simp only [Act.put, List.setIfInBounds_toArray, List.set_cons_zero, List.set_cons_succ]
  refine wpAnyH_take (i := 34) (oi := { dst := some 89, op := _, type := _, pos := _, after := _, guard := _ }) (v := ?v32) rfl (by kernel_rfl) (by kernel_rfl) (by kernel_rfl) (fun _ _ _ h => h) (Or.inl ⟨by rfl, ?y32⟩) (by assumption) ?r32
  case y32 => (intro w hSw; go_simp; try with_reducible rfl)
  try simp only [Act.put, List.setIfInBounds_toArray, List.set_cons_zero, List.set_cons_succ]
  refine wpAnyH_ready (rs := [4]) (by kernel_rfl) (by simp) (AllReadyH.cons (o := _) rfl (fun K hK => ?_) AllReadyH.nil)
  go_simp
  (go_at_call 26; (with_reducible refine (HW4.out _).mono ?_); rintro x w6 ⟨rfl, hb6⟩; have H6 := Lib.hid (RI.below (by first | exact H3.out | exact H3.out.drewN 1) hb6); clear hb6)
  try go_wp2_with fail
  refine hK.out _ _ (trivial) (fun hHeld => ?_)
  clear hK K
  try simp only [Act.put, List.setIfInBounds_toArray, List.set_cons_zero, List.set_cons_succ]
  refine wpAnyH_ready (rs := [19]) (by kernel_rfl) (by simp) (AllReadyH.cons (o := _) rfl (fun K hK => ?_) AllReadyH.nil)
  go_simp
  (go_at_call 28; (with_reducible refine (HI1.out _).mono ?_); rintro x w7 ⟨rfl, hb7⟩; have H7 := Lib.hid (RI.below (by first | exact H6.out | exact H6.out.drewN 1) hb7); clear hb7)
  try go_wp2_with fail
  refine hK.out _ _ (trivial) (fun hHeld => ?_)
  clear hK K
  try simp only [Act.put, List.setIfInBounds_toArray, List.set_cons_zero, List.set_cons_succ]
  refine wpAnyH_ready (rs := [28]) (by kernel_rfl) (by simp) (AllReadyH.cons (o := _) rfl (fun K hK => ?_) AllReadyH.nil)
  go_simp
  (go_at_call 28; (with_reducible refine (HI2.out _).mono ?_); rintro x w8 ⟨rfl, hb8⟩; have H8 := Lib.hid (RI.below (by first | exact H7.out | exact H7.out.drewN 1) hb8); have hf := H8.out.free; have hf1 := (H8.out.drewN 1).free; clear hb8)
  try go_wp2_with fail
  refine hK.out _ _ (trivial) (fun hHeld => ?_)
  clear hK K
  try simp only [Act.put, List.setIfInBounds_toArray, List.set_cons_zero, List.set_cons_succ]
  refine wpAnyH_take (i := 35) (oi := { dst := some 90, op := _, type := _, pos := _, after := _, guard := _ }) (v := ?v33) rfl (by kernel_rfl) (by kernel_rfl) (by kernel_rfl) (fun _ _ _ h => h) (Or.inl ⟨by rfl, ?y33⟩) (by assumption) ?r33
  case y33 => (intro w hSw; go_simp; try with_reducible rfl)
  try simp only [Act.put, List.setIfInBounds_toArray, List.set_cons_zero, List.set_cons_succ]
  refine wpAnyH_ready (rs := [36]) (by kernel_rfl) (by simp) (AllReadyH.cons (o := _) rfl (fun K hK => ?_) AllReadyH.nil)
  go_simp
  refine hK.out _ _ (trivial) (fun hHeld => ?_)
  clear hK K
  try simp only [Act.put, List.setIfInBounds_toArray, List.set_cons_zero, List.set_cons_succ]
  refine wpAnyH_take (i := 37) (oi := { dst := some 3, op := _, type := _, pos := _, after := _, guard := _ }) (v := ?v34) rfl (by kernel_rfl) (by kernel_rfl) (by kernel_rfl) (fun _ _ _ h => h) (Or.inl ⟨by rfl, ?y34⟩) (by assumption) ?r34
  case y34 => (intro w hSw; go_simp; try with_reducible rfl)
  try simp only [Act.put, List.setIfInBounds_toArray, List.set_cons_zero, List.set_cons_succ]
  refine wpAnyH_done (by kernel_rfl) ?_ _
  go_wp2
  obtain ⟨q1, q2⟩ := H8.out.done E HE0.out
  exact bodyPost_ret (results_cell2 Try.results12 rfl (ld_some q1 (ldr_ip _ _ _))) rfl ⟨by rw [HR.out]; rfl, q2⟩

theorem read5_any (s : List UInt8) (hs : s.length ≤ 100000) (w : World) :
    Calls Try.prog 12 #[.string (Str s)] w fun x w' => x = .returned (.tuple #[.agg (ipC (readV5 s).1).toArray, .int .i64 (readV5 s).2]) ∧ Below w.heap.size w w' := by
  by_cases hE : hdE s = 0
  · by_cases h1 : allN s < hdN s
    · exact read5_tot s hs hE h1 w
    by_cases h2 : s.length < allN s
    · exact read5_end s hs hE h1 h2 w
    by_cases h3 : wd s 6 % 16384 ≠ 0
    · exact read5_frag s hs hE h1 h2 h3 w
    by_cases h4 : (optS s).2 = false
    · exact read5_opt s hs hE h1 h2 h3 h4 w
    by_cases h5 : 1400 < allN s - hdN s
    · exact read5_long s hs hE h1 h2 h3 h4 h5 w
    · exact read5_good s hs (by rw [why5_hd hE]; unfold bdE; rw [if_neg h1, if_neg h2, if_neg h3, if_neg h4, if_neg h5]) w
  · exact read5_hd s hs hE w
end Go.Proofs.Ytbmacnbegbcgpaa
