/-
  Texts joined: IpF, IqE, IqF, IqG.
-/
import Derived.Test.YtlbdehegknehiaaGreatMg00
import Derived.Test.YtlbdehegknehiaaGreatMg20
import Derived.Test.YtlbdehegknehiaaGreatMg19
import Derived.Test.YtlbdehegknehiaaGreatMg16
import Derived.Test.YtlbdehegknehiaaGreatMg10
import Derived.Test.YtlbdehegknehiaaGreatMg06
import Derived.Test.YtlbdehegknehiaaGreatMg02
/- A part of the proof. -/
namespace Go.Proofs.YtlbdehegknehiaaGreat
set_option maxRecDepth 100000
set_option maxHeartbeats 40000000
open Go.RowKit
set_option linter.unusedVariables false
attribute [local go_sem ↓] bld_ip ld_ip st_ip ld_addr st_addr
attribute [local go_sem] ldr_ip str_ip ldr_addr str_addr
def lateTurn : Op := Op.convert 94 9 (Operand.tmp 23)
theorem lateTurn_eq : lateTurn = Op.convert 94 9 (Operand.tmp 23) := rfl
attribute [local go_sem] lateTurn_eq
def Two (W : World) (b : Nat) (x y : Int) : Prop := ObjAt W b #[.int .u8 x, .int .u8 y] 5
theorem Two.below {W W' : World} {b : Nat} {x y : Int} (h : Two W b x y) (hb : Below W.heap.size W W') : Two W' b x y := ObjAt.below h hb (ObjAt.lt h)
theorem Two.turn {W : World} {b : Nat} {x y : UInt8} (h : Two W b (x.toNat : Int) (y.toNat : Int)) : (convert 94 9 (.slice (some ⟨b, 0, none⟩) 2 2)).run Tryz.prog W = .ok (.string (Str [x, y])) W := by
  rw [run_convert_bytes_arg (P := Tryz.prog) W 94 5 Tryz.underlying94 Tryz.underlying5 b 0 2 2 [(x.toNat : Int), (y.toNat : Int)] rfl ?_ 9 Tryz.underlying9]
  · rw [show ([(x.toNat : Int), (y.toNat : Int)] : List Int) = [x, y].map (fun b => (b.toNat : Int)) from rfl, strOfNums_B8]
  · intro i hi
    rw [Nat.zero_add, ObjAt.cell h]
    match i, hi with
    | 0, _ => rfl
    | 1, _ => rfl
theorem putL_hop (a b : Nat) (ha : a < 256) (hb : b < 256) : putL (256 * a + b) 2 = putL a 1 ++ putL b 1 := by
  simp only [putL, List.cons_append, List.nil_append, List.cons.injEq, and_true]
  constructor
  · congr 1; omega
  · apply UInt8.toNat_inj.1
    simp only [UInt8.toNat_ofNat']
    omega
theorem Two.made0 (W : World) (x y : Int) : Two (W.alloc (.cells #[.int .u8 x, .int .u8 y] 5)) W.heap.size x y := ObjAt.made W _ _
theorem Two.made (W : World) (x y : Int) : Two (W.alloc (.cells #[.int .u8 x, .int .u8 y] 5)).drew W.heap.size x y := ObjAt.drew (ObjAt.made W _ _)
theorem write5_good (p : Ip) (ho : p.ok) (hg : p.good = true) (w : World) : Calls Tryz.prog 66 #[.agg (ipC p).toArray] w fun x w' => x = .returned (.tuple #[.string (Str p.wrt), .int .i64 0]) ∧ Below w.heap.size w w' := by
  have HB := zh (IB.made w p)
  have HO := zh ho
  have hg0 := hg
  unfold Ip.good at hg0
  simp only [Bool.and_eq_true, Bool.not_eq_true', decide_eq_true_eq] at hg0
  obtain ⟨hnum, hf, ht, _, _, hbl⟩ := hg0
  unfold Ip.nums at hnum
  rw [decide_eq_true_eq] at hnum
  obtain ⟨a0, a1, a2, a3, a4, a5, a6, a7⟩ := hnum
  obtain ⟨n0, e0⟩ := Int.eq_ofNat_of_zero_le a0
  obtain ⟨n1, e1⟩ := Int.eq_ofNat_of_zero_le a6
  obtain ⟨n2, e2⟩ := Int.eq_ofNat_of_zero_le a2
  obtain ⟨n3, e3⟩ := Int.eq_ofNat_of_zero_le a4
  have HG := zh (fun W => good5_any p ho (by omega) W)
  rw [hg] at HG
  have HS := zh (fun W => size5_any p ho (by omega) W)
  have hsz := Str_size p.bd
  obtain ⟨n, hn⟩ : ∃ n, n = p.bd.length := ⟨_, rfl⟩
  obtain ⟨z, hz⟩ : ∃ z, z = p.sz := ⟨_, rfl⟩
  have hzn : z = 20 + (optL p.al).length + n := by rw [hz, hn]; rfl
  have ho4 := optL_length p.al
  obtain ⟨m, hm⟩ : ∃ m, m = (20 + (optL p.al).length) / 4 := ⟨_, rfl⟩
  obtain ⟨x0, hx0⟩ : ∃ x : UInt8, x = UInt8.ofNat (64 + m) := ⟨_, rfl⟩
  obtain ⟨y0, hy0⟩ : ∃ x : UInt8, x = UInt8.ofNat n0 := ⟨_, rfl⟩
  have hxn : x0.toNat = 64 + m := by rw [hx0, UInt8.toNat_ofNat']; omega
  have hyn : y0.toNat = n0 := by rw [hy0, UInt8.toNat_ofNat']; omega
  have hm1 : IntKind.i64.wrap ((z : Int) - (n : Int)) = (z : Int) - (n : Int) := by simp only [IntKind.wrap_i64]; omega
  have hm2 : ((z : Int) - (n : Int)) / 4 = (m : Int) := by omega
  have hm3 : bits .or .i64 64 (m : Int) = (x0.toNat : Int) := by
    rw [hxn]
    rcases (show m = 5 ∨ m = 6 by omega) with h | h <;> (rw [h]; decide)
  have hm4 : IntKind.u8.wrap (x0.toNat : Int) = (x0.toNat : Int) := by have := x0.toNat_lt; simp only [IntKind.wrap_u8]; omega
  have hm5 : IntKind.u8.wrap (n0 : Int) = (y0.toNat : Int) := by rw [hyn]; simp only [IntKind.wrap_u8]; omega
  have HP1 := zh (fun W => put5_any z (by omega) W)
  have HP2 := zh (fun W => put5_any n1 (by omega) W)
  have HP3 : Hid (∀ W, Calls Tryz.prog 144 #[.int .i64 0] W fun x w' => x = .returned (.string (Str (putL 0 2))) ∧ Below W.heap.size W w') := zh (fun W => put5_any 0 (by omega) W)
  have HP4 := zh (fun W => put5_any (256 * n2 + n3) (by omega) W)
  have HH := zh (fun W => hopw_any p ho n2 n3 e2 e3 (by omega) (by omega) W)
  obtain ⟨hw, hwE⟩ : ∃ hw, hw = 256 * n2 + n3 := ⟨_, rfl⟩
  rw [← hwE] at HP4 HH
  have l1 := putL_length z 2; have l2 := putL_length n1 2; have l3 := putL_length 0 2; have l4 := putL_length hw 2
  obtain ⟨A, hA⟩ : ∃ A, A = [x0, y0] ++ (putL z 2 ++ (putL n1 2 ++ (putL 0 2 ++ putL hw 2))) := ⟨_, rfl⟩
  have hAh : A = p.ha := by
    rw [hA, hx0, hy0]
    unfold Ip.ha
    rw [e0, e1, e2, e3]
    have hlen : (optL p.al).length = 0 ∨ (optL p.al).length = 4 := by cases p.al <;> simp [optL]
    rw [show 69 + (optL p.al).length / 4 = 64 + m by omega, show 20 + (optL p.al).length + p.bd.length = z by rw [hzn, hn]]
    simp only [Int.toNat_natCast]
    rw [hwE, putL_hop n2 n3 (by omega) (by omega)]
    simp [putL]
  obtain ⟨B, hBd⟩ : ∃ B, B = p.hb := ⟨_, rfl⟩
  have hB0 : B = p.fr.take 4 ++ (p.to.take 4 ++ optL p.al) := by rw [hBd]; rfl
  have hchk : p.chk = 65535 - foldN (wsum ([A, B] : List (List UInt8)).flatten) := by rw [hAh, hBd]; simp [Ip.chk]
  have hwrt : p.wrt = A ++ (putL p.chk 2 ++ (B ++ p.bd)) := by rw [hAh, hBd]; rfl
  have lA := Ip.ha_length p
  rw [← hAh] at lA
  have lB := Ip.hb_length p ho
  rw [← hBd] at lB
  have lB12 : B.length ≤ 12 := by rw [lB]; split <;> omega
  have HBY1 : Hid (∀ W, Calls Tryz.prog 140 #[.agg (addrC p.f6 p.fr).toArray] W fun e w' => e = .returned (.string (Str (p.fr.take 4))) ∧ Below W.heap.size W w') := zh fun W => by
    have := bytes_any p.f6 p.fr ho.1 W
    rw [hf] at this ⊢; exact this
  have HBY2 : Hid (∀ W, Calls Tryz.prog 140 #[.agg (addrC p.t6 p.to).toArray] W fun e w' => e = .returned (.string (Str (p.to.take 4))) ∧ Below W.heap.size W w') := zh fun W => by
    have := bytes_any p.t6 p.to ho.2 W
    rw [ht] at this ⊢; exact this
  have HOP := zh (fun W => opts_any p ho W)
  have b1 := run_cat (P := Tryz.prog) (p.fr.take 4) (p.to.take 4) (by simp; omega)
  have b2 := run_cat (P := Tryz.prog) (p.fr.take 4 ++ p.to.take 4) (optL p.al) (by simp; omega)
  rw [List.append_assoc, ← hB0] at b2
  have hchL : p.chk ≤ 65535 := by rw [hchk]; omega
  have hlAB : ([A, B] : List (List UInt8)).flatten.length ≤ 1048576 := by simp; omega
  have HC0 : Hid (∀ W : World, Calls Tryz.prog 147 #[.slice (some ⟨W.heap.size, 0, none⟩) 2 2] (W.alloc (.cells #[.string (Str A), .string (Str B)] 9)) fun e w' => e = .returned (.int .i64 (p.chk : Int)) ∧ Below W.heap.size W w') := zh fun W => by
    refine (check_own [A, B] hlAB (by simp) 0 _ _ (own_lit0 W #[.string (Str A), .string (Str B)] _ 2 _ rfl (by omega) rfl)).mono ?_
    rintro e w1 ⟨rfl, d, rfl⟩
    exact ⟨by rw [hchk], bdrewN ((Below.refl _ _).alloc (Nat.le_refl _) _) _⟩
  have HC1 : Hid (∀ W : World, Calls Tryz.prog 147 #[.slice (some ⟨W.heap.size, 0, none⟩) 2 2] (W.alloc (.cells #[.string (Str A), .string (Str B)] 9)).drew fun e w' => e = .returned (.int .i64 (p.chk : Int)) ∧ Below W.heap.size W w') := zh fun W => by
    refine (check_own [A, B] hlAB (by simp) 0 _ _ (own_lit W #[.string (Str A), .string (Str B)] _ 2 _ 1 rfl (by omega) rfl)).mono ?_
    rintro e w1 ⟨rfl, d, rfl⟩
    exact ⟨by rw [hchk], bdrewN (bdrewN ((Below.refl _ _).alloc (Nat.le_refl _) _) 1) _⟩
  have HPC := zh (fun W => put5_any p.chk (by omega) W)
  have lC := putL_length p.chk 2
  generalize putL p.chk 2 = sc at HPC lC hwrt
  generalize p.chk = ck at HC0 HC1 HPC
  have c1 := run_cat (P := Tryz.prog) A sc (by omega)
  have c2 := run_cat (P := Tryz.prog) (A ++ sc) B (by simp; omega)
  have c3 := run_cat (P := Tryz.prog) (A ++ (sc ++ B)) p.bd (by simp; omega)
  simp only [List.append_assoc] at c2 c3
  rw [← hwrt] at c3
  generalize putL z 2 = s1 at HP1 l1 hA
  generalize putL n1 2 = s2 at HP2 l2 hA
  generalize putL 0 2 = s3 at HP3 l3 hA
  generalize putL hw 2 = s4 at HP4 l4 hA
  have d1 := run_cat (P := Tryz.prog) [x0, y0] s1 (by simp; omega)
  have d2 := run_cat (P := Tryz.prog) ([x0, y0] ++ s1) s2 (by simp; omega)
  have d3 := run_cat (P := Tryz.prog) ([x0, y0] ++ (s1 ++ s2)) s3 (by simp; omega)
  have d4 := run_cat (P := Tryz.prog) ([x0, y0] ++ (s1 ++ (s2 ++ s3))) s4 (by simp; omega)
  simp only [List.append_assoc] at d2 d3 d4
  rw [← hA] at d4
  have hT : ∀ (W : World) (b : Nat), Two W b (x0.toNat : Int) (y0.toNat : Int) → (convert 94 9 (.slice (some ⟨b, 0, none⟩) 2 2)).run Tryz.prog W = .ok (.string (Str [x0, y0])) W := fun W b h => h.turn
  have HT := zh hT
  have hTm : ∀ W : World, (convert 94 9 (.slice (some ⟨W.heap.size, 0, none⟩) 2 2)).run Tryz.prog (W.alloc (.cells #[.int .u8 (x0.toNat : Int), .int .u8 (y0.toNat : Int)] 5)).drew = .ok (.string (Str [x0, y0])) (W.alloc (.cells #[.int .u8 (x0.toNat : Int), .int .u8 (y0.toNat : Int)] 5)).drew := fun W => hT _ _ (Two.made _ _ _)
  have hTn : ∀ W : World, (convert 94 9 (.slice (some ⟨W.heap.size, 0, none⟩) 2 2)).run Tryz.prog (W.alloc (.cells #[.int .u8 (x0.toNat : Int), .int .u8 (y0.toNat : Int)] 5)) = .ok (.string (Str [x0, y0])) (W.alloc (.cells #[.int .u8 (x0.toNat : Int), .int .u8 (y0.toNat : Int)] 5)) := fun W => hT _ _ (Two.made0 _ _ _)
  clear hT
  generalize hxy : [x0, y0] = xy at d1 d2 d3 d4 HT hTm hTn
  rw [← hz] at HS
  rw [← hn] at hsz
  have HKa : Hid (∀ W, IB w W p → row? W w.heap.size 0 40 = some (ipC p) ∧ W.cell? ⟨w.heap.size, 39, none⟩ = some (.string (Str p.bd)) ∧ IB w W p) := zh fun W h => ⟨h.1.row ho, h.1.bd ho, h⟩
  have HKb : Hid (∀ W, IB w W p → row? W w.heap.size 0 40 = some (ipC p) ∧ W.cell? ⟨w.heap.size, 0, none⟩ = some (.int .i64 n0) ∧ W.cell? ⟨w.heap.size, 1, none⟩ = some (.int .i64 n1) ∧ IB w W p) := zh fun W h => by
    have h1 := h.1.tos; have h2 := h.1.id
    rw [e0] at h1; rw [e1] at h2
    exact ⟨h.1.row ho, h1, h2, h⟩
  have hN : n0 ≤ 255 := by omega
  clear hAh hBd hB0 hchk hwrt lA lB lB12 hchL hlAB lC hwE
  clear ho hg a0 a1 a2 a3 a4 a5 a6 a7 e0 e1 e2 e3 hm hzn ho4 hxn hyn hx0 hy0 hz hn hbl l1 l2 l3 l4 hA hxy
  go_enter Tryz.func66, Tryz.ntmps66
  go_upto_region 1 with (fail)
  generalize w.alloc (.cells (ipC p).toArray 78) = W at HB ⊢
  have hr := HB.out.1.row HO.out
  go_upto_region 3 with (go_at_call 142; (with_reducible refine (HG.out _).mono ?_); rintro x w1 ⟨rfl, hb1⟩; have H1 := zh (HB.out.keep hb1); clear hb1 hr)
  go_region_held3 (fun W => row? W w.heap.size 0 40 = some (ipC p) ∧ W.cell? ⟨w.heap.size, 39, none⟩ = some (.string (Str p.bd)) ∧ IB w W p) (first | assumption | exact HKa.out _ H1.out | exact HKa.out _ (H1.out.drewN 1)) (first
    | (go_at_call 143; (with_reducible refine (HS.out _).mono ?_); rintro x w3 ⟨rfl, hb3⟩; have hk := HKa.out _ (IB.keep (And.right (And.right (by assumption))) hb3); clear hb3))
  have H3 := zh hk.2.2
  clear hk
  clear hsz hf ht
  go_upto_region 4 with (fail)
  rw [show Op.convert 94 9 (Operand.tmp 23) = lateTurn from rfl]
  go_cut [4, 5] from 7 (fun m4 m5 wr => m5 = .string (Str A) ∧ IB w wr p)
  case rest =>
    obtain ⟨rfl, hib⟩ := hcut
    have H4 := zh hib
    have HKc : Hid (∀ W, IB w W p → row? W w.heap.size 0 40 = some (ipC p) ∧ row? W w.heap.size 4 17 = some (addrC p.f6 p.fr) ∧ row? W w.heap.size 21 17 = some (addrC p.t6 p.to) ∧ IB w W p) := zh fun W h => ⟨h.1.row HO.out, h.1.rfr HO.out, h.1.rto HO.out, h⟩
    have HKd : Hid (∀ W, IB w W p → W.cell? ⟨w.heap.size, 39, none⟩ = some (.string (Str p.bd)) ∧ IB w W p) := zh fun W h => ⟨h.1.bd HO.out, h⟩
    clear hib d1 d2 d3 d4 hTm hTn HP1 HP2 HP3 HP4 HH HS hm1 hm2 hm3 hm4 hm5 H3 H1 HB HG HT HKa HKb
    go_upto_region 5 with (fail)
    go_region_held3 (fun W => row? W w.heap.size 0 40 = some (ipC p) ∧ row? W w.heap.size 4 17 = some (addrC p.f6 p.fr) ∧ row? W w.heap.size 21 17 = some (addrC p.t6 p.to) ∧ IB w W p) (first | assumption | exact HKc.out _ H4.out | exact HKc.out _ (H4.out.drewN 1)) (first
      | (go_at_call 140; (with_reducible refine (HBY1.out _).mono ?_); rintro x w3 ⟨rfl, hb3⟩; have hk := HKc.out _ (IB.keep (And.right (And.right (And.right (by assumption)))) hb3); clear hb3)
      | (go_at_call 140; (with_reducible refine (HBY2.out _).mono ?_); rintro x w3 ⟨rfl, hb3⟩; have hk := HKc.out _ (IB.keep (And.right (And.right (And.right (by assumption)))) hb3); clear hb3)
      | (go_at_call 146; (with_reducible refine (HOP.out _).mono ?_); rintro x w3 ⟨rfl, hb3⟩; have hk := HKc.out _ (IB.keep (And.right (And.right (And.right (by assumption)))) hb3); clear hb3))
    have H5 := zh hk.2.2.2
    clear hk
    go_upto_region 6 with (fail)
    go_region_held3 (fun W => W.cell? ⟨w.heap.size, 39, none⟩ = some (.string (Str p.bd)) ∧ IB w W p) (first | assumption | exact HKd.out _ (IB.keep (And.right (by assumption)) ((Below.refl _ _).alloc (Nat.le_refl _) _)) | exact HKd.out _ (IB.keep (And.right (by assumption)) (bdrewN ((Below.refl _ _).alloc (Nat.le_refl _) _) 1)) | exact HKd.out _ H5.out | exact HKd.out _ (H5.out.drewN 1)) (first
      | (go_at_call 147; (with_reducible refine (HC0.out _).mono ?_); rintro x w3 ⟨rfl, hb3⟩; have hk := HKd.out _ (IB.keep H5.out hb3); clear hb3)
      | (go_at_call 147; (with_reducible refine (HC0.out _).mono ?_); rintro x w3 ⟨rfl, hb3⟩; have hk := HKd.out _ (IB.keep (H5.out.drewN 1) hb3); clear hb3)
      | (go_at_call 147; (with_reducible refine (HC1.out _).mono ?_); rintro x w3 ⟨rfl, hb3⟩; have hk := HKd.out _ (IB.keep H5.out hb3); clear hb3)
      | (go_at_call 147; (with_reducible refine (HC1.out _).mono ?_); rintro x w3 ⟨rfl, hb3⟩; have hk := HKd.out _ (IB.keep (H5.out.drewN 1) hb3); clear hb3)
      | (go_at_call 144; (with_reducible refine (HPC.out _).mono ?_); rintro x w3 ⟨rfl, hb3⟩; have hk := HKd.out _ (IB.keep (And.right (by assumption)) hb3); clear hb3))
    go_wp2_with fail
    go_ret2
    exact ⟨rfl, hk.2.2⟩
  case first =>
    go_region_held3 (fun W => row? W w.heap.size 0 40 = some (ipC p) ∧ W.cell? ⟨w.heap.size, 0, none⟩ = some (.int .i64 n0) ∧ W.cell? ⟨w.heap.size, 1, none⟩ = some (.int .i64 n1) ∧ IB w W p) (first | assumption | exact HKb.out _ (IB.keep (And.right (And.right (And.right (by assumption)))) ((Below.refl _ _).alloc (Nat.le_refl _) _)) | exact HKb.out _ H3.out | exact HKb.out _ (H3.out.drewN 1) | exact HKb.out _ (IB.keep H3.out (bdrewN ((Below.refl _ _).alloc (Nat.le_refl _) _) 1)) | exact HKb.out _ (IB.keep (And.right (And.right (And.right (by assumption)))) (bdrewN ((Below.refl _ _).alloc (Nat.le_refl _) _) 1)) | exact HKb.out _ (IB.drewN (And.right (And.right (And.right (by assumption)))) 1)) (first
      | (go_at_call 143; (with_reducible refine (HS.out _).mono ?_); rintro x w3 ⟨rfl, hb3⟩; have hk := HKb.out _ (IB.keep (And.right (And.right (And.right (by assumption)))) hb3); (try (have htw := Two.below (Two.made _ _ _) hb3; have hcv := HT.out _ _ htw)); (try (have htw := Two.below (Two.made0 _ _ _) hb3; have hcv := HT.out _ _ htw)); (try (have htw := Two.below (by assumption) hb3; have hcv := HT.out _ _ htw)); clear hb3)
      | (go_at_call 144; (with_reducible refine (HP1.out _).mono ?_); rintro x w3 ⟨rfl, hb3⟩; have hk := HKb.out _ (IB.keep (And.right (And.right (And.right (by assumption)))) hb3); (try (have htw := Two.below (Two.made _ _ _) hb3; have hcv := HT.out _ _ htw)); (try (have htw := Two.below (Two.made0 _ _ _) hb3; have hcv := HT.out _ _ htw)); (try (have htw := Two.below (by assumption) hb3; have hcv := HT.out _ _ htw)); clear hb3)
      | (go_at_call 144; (with_reducible refine (HP2.out _).mono ?_); rintro x w3 ⟨rfl, hb3⟩; have hk := HKb.out _ (IB.keep (And.right (And.right (And.right (by assumption)))) hb3); (try (have htw := Two.below (Two.made _ _ _) hb3; have hcv := HT.out _ _ htw)); (try (have htw := Two.below (Two.made0 _ _ _) hb3; have hcv := HT.out _ _ htw)); (try (have htw := Two.below (by assumption) hb3; have hcv := HT.out _ _ htw)); clear hb3)
      | (go_at_call 144; (with_reducible refine (HP3.out _).mono ?_); rintro x w3 ⟨rfl, hb3⟩; have hk := HKb.out _ (IB.keep (And.right (And.right (And.right (by assumption)))) hb3); (try (have htw := Two.below (Two.made _ _ _) hb3; have hcv := HT.out _ _ htw)); (try (have htw := Two.below (Two.made0 _ _ _) hb3; have hcv := HT.out _ _ htw)); (try (have htw := Two.below (by assumption) hb3; have hcv := HT.out _ _ htw)); clear hb3)
      | (go_at_call 144; (with_reducible refine (HP4.out _).mono ?_); rintro x w3 ⟨rfl, hb3⟩; have hk := HKb.out _ (IB.keep (And.right (And.right (And.right (by assumption)))) hb3); (try (have htw := Two.below (Two.made _ _ _) hb3; have hcv := HT.out _ _ htw)); (try (have htw := Two.below (Two.made0 _ _ _) hb3; have hcv := HT.out _ _ htw)); (try (have htw := Two.below (by assumption) hb3; have hcv := HT.out _ _ htw)); clear hb3)
      | (go_at_call 145; (with_reducible refine (HH.out _).mono ?_); rintro x w3 ⟨rfl, hb3⟩; have hk := HKb.out _ (IB.keep (And.right (And.right (And.right (by assumption)))) hb3); (try (have htw := Two.below (Two.made _ _ _) hb3; have hcv := HT.out _ _ htw)); (try (have htw := Two.below (Two.made0 _ _ _) hb3; have hcv := HT.out _ _ htw)); (try (have htw := Two.below (by assumption) hb3; have hcv := HT.out _ _ htw)); clear hb3))
    all_goals
      go_wp2
      go_meet
      case rel => exact ⟨rfl, And.right (And.right (And.right (by assumption)))⟩
end Go.Proofs.YtlbdehegknehiaaGreat

/- A part of the proof. -/
namespace Go.Proofs.YtlbdehegknehiaaGreat
set_option maxRecDepth 100000
set_option maxHeartbeats 2000000
open Go.RowKit
set_option linter.unusedVariables false
attribute [local go_sem ↓] bld_iq ld_iq st_iq ld_addr st_addr
attribute [local go_sem] ldr_iq str_iq ldr_addr str_addr
theorem inq_any (n l m : Int) (w : World) : Calls Tryz.prog 188 #[.int .i64 n, .int .i64 l, .int .i64 m] w fun x w' => x = .returned (.bool (decide (l ≤ n ∧ n ≤ m))) ∧ w = w' := by
  go_enter Tryz.func188, Tryz.ntmps188
  go_wp2
  all_goals
    go_ret
    exact ⟨ret_bool (by rw [Bool.eq_iff_iff]; simp; try (intros; first | omega | (simp_all; omega))), rfl⟩
theorem Ip.good6_eq (p : Ip) : p.good6 = (decide (0 ≤ p.tos ∧ p.tos ≤ 255) && (decide (0 ≤ p.pro ∧ p.pro ≤ 255) && (decide (1 ≤ p.ttl ∧ p.ttl ≤ 255) && (decide (0 ≤ p.id ∧ p.id ≤ 1048575) && (p.f6 && (p.t6 && decide ((p.bd.length : Int) ≤ 1400))))))) := by
  unfold Ip.good6 Ip.nums6
  rw [Bool.eq_iff_iff]
  simp
  constructor
  · rintro ⟨⟨h1, h2, h3, h4, h5, h6, h7, h8⟩, h9, h10, h11⟩
    exact ⟨⟨h1, h2⟩, ⟨h3, h4⟩, ⟨h5, h6⟩, ⟨h7, h8⟩, h9, h10, by omega⟩
  · rintro ⟨⟨h1, h2⟩, ⟨h3, h4⟩, ⟨h5, h6⟩, ⟨h7, h8⟩, h9, h10, h11⟩
    exact ⟨⟨h1, h2, h3, h4, h5, h6, h7, h8⟩, h9, h10, by omega⟩
theorem good6_any (p : Ip) (ho : p.ok) (hl : p.bd.length ≤ 1000000) (w : World) : Calls Tryz.prog 137 #[.agg (ipC p).toArray] w fun x w' => x = .returned (.bool p.good6) ∧ Below w.heap.size w w' := by
  obtain ⟨R, hR⟩ : ∃ R, R = p.good6 := ⟨_, rfl⟩
  rw [← hR]
  rw [Ip.good6_eq] at hR
  have HB := zh (QB.made w p)
  have hsz := Str_size p.bd
  have HK : Hid (∀ W, QB w W p → W.cell? ⟨w.heap.size, 4, none⟩ = some (.bool p.f6) ∧ W.cell? ⟨w.heap.size, 21, none⟩ = some (.bool p.t6) ∧ W.cell? ⟨w.heap.size, 39, none⟩ = some (.string (Str p.bd))) := zh fun W h => ⟨h.1.f6, h.1.t6 ho, h.1.bd ho⟩
  have HN : Hid (∀ W, QB w W p → W.cell? ⟨w.heap.size, 0, none⟩ = some (.int .i64 p.tos) ∧ W.cell? ⟨w.heap.size, 1, none⟩ = some (.int .i64 p.id) ∧ W.cell? ⟨w.heap.size, 2, none⟩ = some (.int .i64 p.ttl) ∧ W.cell? ⟨w.heap.size, 3, none⟩ = some (.int .i64 p.pro)) := zh fun W h => ⟨h.1.tos, h.1.id, h.1.ttl, h.1.pro⟩
  have H1 := zh (fun W => inq_any p.tos 0 255 W)
  have H2 := zh (fun W => inq_any p.pro 0 255 W)
  have H3 := zh (fun W => inq_any p.ttl 1 255 W)
  have H4 := zh (fun W => inq_any p.id 0 1048575 W)
  generalize decide (0 ≤ p.tos ∧ p.tos ≤ 255) = b1 at H1 hR
  generalize decide (0 ≤ p.pro ∧ p.pro ≤ 255) = b2 at H2 hR
  generalize decide (1 ≤ p.ttl ∧ p.ttl ≤ 255) = b3 at H3 hR
  generalize decide (0 ≤ p.id ∧ p.id ≤ 1048575) = b4 at H4 hR
  go_enter Tryz.func137, Tryz.ntmps137
  go_upto_region 1 with (fail)
  generalize w.alloc (.cells (ipC p).toArray 75) = W at HB ⊢
  obtain ⟨n0, n1, n2, n3⟩ := HN.out _ HB.out
  obtain ⟨r1, r2, c5⟩ := HK.out _ HB.out
  clear ho HK HN
  generalize p.f6 = b5 at r1 hR
  generalize p.t6 = b6 at r2 hR
  have HR := zh hR; clear hR
  cases b1 with
  | false =>
    go_wp2_with (first
      | (go_at_call 188; (with_reducible refine (H1.out _).mono ?_); rintro x w1 ⟨rfl, rfl⟩))
    go_ret
    exact ⟨ret_bool (by rw [HR.out]; first | rfl | simp), HB.out.2⟩
  | true =>
    cases b2 with
    | false =>
      go_wp2_with (first
        | (go_at_call 188; (with_reducible refine (H1.out _).mono ?_); rintro x w1 ⟨rfl, rfl⟩)
        | (go_at_call 188; (with_reducible refine (H2.out _).mono ?_); rintro x w1 ⟨rfl, rfl⟩))
      go_ret
      exact ⟨ret_bool (by rw [HR.out]; first | rfl | simp), HB.out.2⟩
    | true =>
      cases b3 with
      | false =>
        go_wp2_with (first
          | (go_at_call 188; (with_reducible refine (H1.out _).mono ?_); rintro x w1 ⟨rfl, rfl⟩)
          | (go_at_call 188; (with_reducible refine (H2.out _).mono ?_); rintro x w1 ⟨rfl, rfl⟩)
          | (go_at_call 188; (with_reducible refine (H3.out _).mono ?_); rintro x w1 ⟨rfl, rfl⟩))
        go_ret
        exact ⟨ret_bool (by rw [HR.out]; first | rfl | simp), HB.out.2⟩
      | true =>
        cases b4 with
        | false =>
          go_wp2_with (first
            | (go_at_call 188; (with_reducible refine (H1.out _).mono ?_); rintro x w1 ⟨rfl, rfl⟩)
            | (go_at_call 188; (with_reducible refine (H2.out _).mono ?_); rintro x w1 ⟨rfl, rfl⟩)
            | (go_at_call 188; (with_reducible refine (H3.out _).mono ?_); rintro x w1 ⟨rfl, rfl⟩)
            | (go_at_call 188; (with_reducible refine (H4.out _).mono ?_); rintro x w1 ⟨rfl, rfl⟩))
          go_ret
          exact ⟨ret_bool (by rw [HR.out]; first | rfl | simp), HB.out.2⟩
        | true =>
          cases b5 with
          | false =>
            go_wp2_with (first
              | (go_at_call 188; (with_reducible refine (H1.out _).mono ?_); rintro x w1 ⟨rfl, rfl⟩)
              | (go_at_call 188; (with_reducible refine (H2.out _).mono ?_); rintro x w1 ⟨rfl, rfl⟩)
              | (go_at_call 188; (with_reducible refine (H3.out _).mono ?_); rintro x w1 ⟨rfl, rfl⟩)
              | (go_at_call 188; (with_reducible refine (H4.out _).mono ?_); rintro x w1 ⟨rfl, rfl⟩))
            go_ret
            exact ⟨ret_bool (by rw [HR.out]; first | rfl | simp), HB.out.2⟩
          | true =>
            cases b6 with
            | false =>
              go_wp2_with (first
                | (go_at_call 188; (with_reducible refine (H1.out _).mono ?_); rintro x w1 ⟨rfl, rfl⟩)
                | (go_at_call 188; (with_reducible refine (H2.out _).mono ?_); rintro x w1 ⟨rfl, rfl⟩)
                | (go_at_call 188; (with_reducible refine (H3.out _).mono ?_); rintro x w1 ⟨rfl, rfl⟩)
                | (go_at_call 188; (with_reducible refine (H4.out _).mono ?_); rintro x w1 ⟨rfl, rfl⟩))
              go_ret
              exact ⟨ret_bool (by rw [HR.out]; first | rfl | simp), HB.out.2⟩
            | true =>
              go_wp2_with (first
                | (go_at_call 188; (with_reducible refine (H1.out _).mono ?_); rintro x w1 ⟨rfl, rfl⟩)
                | (go_at_call 188; (with_reducible refine (H2.out _).mono ?_); rintro x w1 ⟨rfl, rfl⟩)
                | (go_at_call 188; (with_reducible refine (H3.out _).mono ?_); rintro x w1 ⟨rfl, rfl⟩)
                | (go_at_call 188; (with_reducible refine (H4.out _).mono ?_); rintro x w1 ⟨rfl, rfl⟩))
              go_ret
              exact ⟨ret_bool (by rw [HR.out]; first | rfl | simp), HB.out.2⟩
end Go.Proofs.YtlbdehegknehiaaGreat

/- A part of the proof. -/
namespace Go.Proofs.YtlbdehegknehiaaGreat
open Go.RowKit
set_option linter.unusedVariables false
attribute [local go_sem ↓] bld_iq ld_iq st_iq ld_addr st_addr
attribute [local go_sem] ldr_iq str_iq ldr_addr str_addr
end Go.Proofs.YtlbdehegknehiaaGreat

/- A part of the proof. -/
namespace Go.Proofs.YtlbdehegknehiaaGreat
open Go.RowKit
set_option linter.unusedVariables false
attribute [local go_sem ↓] ld_addr st_addr
attribute [local go_sem] ldr_addr str_addr
theorem qbelow {w a c : World} {row : Option Nat} (h : w.grownBy a row) (k : Below w.heap.size a c) : w.grownBy c row :=
  ⟨k.os.trans h.os, k.tape.trans h.tape, k.output.trans h.output, Nat.le_trans h.size k.size, fun i hi hne => (k.block i hi).trans (h.block i hi hne)⟩
theorem qof {w c : World} {row : Option Nat} (k : Below w.heap.size w c) : w.grownBy c row := ⟨k.os, k.tape, k.output, k.size, fun i hi _ => k.block i hi⟩
theorem takeV_len (l : List UInt8) (bad : Bool) (n : Nat) : (takeV l bad n).length ≤ n := by
  unfold takeV; repeat' split
  all_goals simp
  omega
theorem takeV_all (l : List UInt8) (bad : Bool) (n : Nat) (h : (takeV l bad n).length ≠ n) : takeV l bad n = [] := by
  unfold takeV at h ⊢
  repeat' split
  · rfl
  · rfl
  · rename_i h1 h2
    exfalso; apply h
    rw [if_neg h1, if_neg h2, List.length_take]
    simp; omega
theorem rd_good {l : List UInt8} {n k : Nat} (h : n ≤ l.length) : takeV l false n = l.take n ∧ leftV l false n = l.drop n ∧ pastV l false n k = k + n ∧ badV l false n = false := by
  have h1 : ¬ ((l.length : Int) < (n : Int)) := by omega
  unfold takeV leftV pastV badV
  simp only [if_neg h1, Int.toNat_natCast]
  simp; omega
theorem rd_short {l : List UInt8} {n k : Nat} (h : l.length < n) : takeV l false n = [] ∧ leftV l false n = l ∧ pastV l false n k = k ∧ badV l false n = true := by
  have h1 : (l.length : Int) < (n : Int) := by omega
  unfold takeV leftV pastV badV
  simp [h1]
theorem rd_dead {l : List UInt8} {n : Int} {k : Nat} : takeV l true n = [] ∧ leftV l true n = l ∧ pastV l true n k = k ∧ badV l true n = true := by
  unfold takeV leftV pastV badV
  simp
theorem clamp_small (n : Nat) (h : n ≤ 8) : clampN (n : Int) 8 = n := by unfold clampN; split <;> omega
theorem numq_any (b : Nat) (l : List UInt8) (k : Nat) (bad : Bool) (n : Nat) (hn : n ≤ 8) (hl : l.length ≤ 1000000) (hk : k ≤ 1000000) (w : World) (h : RdAt w b l k bad) :
    Calls Tryz.prog 84 #[.pointer (some ⟨b, 0, none⟩), .int .i64 n] w fun e w' => e = .returned (.int .u64 (num (takeV l bad n))) ∧ RdAt w' b (leftV l bad n) (pastV l bad n k) (badV l bad n) ∧ w.grownBy w' (some b) := by
  have := num_any b l k bad n hl hk w h
  rw [clamp_small n hn] at this
  exact this
theorem leftV_le (l : List UInt8) (bad : Bool) (n : Int) : (leftV l bad n).length ≤ l.length := by
  unfold leftV; repeat' split
  all_goals simp
theorem pastV_le (l : List UInt8) (bad : Bool) (n k : Nat) : pastV l bad n k ≤ k + n := by
  unfold pastV; repeat' split
  all_goals simp
theorem num_small : ∀ (l : List UInt8), l.length ≤ 4 → num l < 256 ^ l.length := by
  intro l h
  match l, h with
  | [], _ => decide
  | [a], _ => have := a.toNat_lt; rw [num1]; simpa using this
  | [a, b], _ => have := num2_lt (x := [a, b]) rfl; simpa using this
  | [a, b, c], _ =>
    have h1 := a.toNat_lt; have h2 := b.toNat_lt; have h3 := c.toNat_lt
    simp [num]; omega
  | [a, b, c, d], _ =>
    have h1 := a.toNat_lt; have h2 := b.toNat_lt; have h3 := c.toNat_lt; have h4 := d.toNat_lt
    rw [num4]; simp; omega
theorem num_takeV (l : List UInt8) (bad : Bool) (n : Nat) (hn : n ≤ 4) : num (takeV l bad n) < 256 ^ n := by
  have h1 := takeV_len l bad n
  exact Nat.lt_of_lt_of_le (num_small _ (by omega)) (Nat.pow_le_pow_right (by omega) h1)
def TQ (w W : World) (b : Nat) (l : List UInt8) (k : Nat) (bad : Bool) : Prop :=
  RdAt W b l k bad ∧ ObjAt W w.heap.size zz17 24 ∧ b < w.heap.size ∧ w.grownBy W (some b)
theorem TQ.start (w : World) (b : Nat) (l : List UInt8) (k : Nat) (bad : Bool) (h : RdAt w b l k bad) : TQ w (w.alloc (.cells zz17 24)) b l k bad :=
  ⟨ObjAt.alloc h _, ObjAt.made w _ _, ObjAt.lt h, qof ((Below.refl _ _).alloc (Nat.le_refl _) _)⟩
theorem TQ.grown {w W W' : World} {b : Nat} {l : List UInt8} {k : Nat} {bad : Bool} (h : TQ w W b l k bad) {l' : List UInt8} {k' : Nat} {bad' : Bool} (hr : RdAt W' b l' k' bad') (hg : W.grownBy W' (some b)) : TQ w W' b l' k' bad' :=
  ⟨hr, ObjAt.grown h.2.1 hg (by have := h.2.2.1; simp; omega), h.2.2.1, gtrans h.2.2.2 hg⟩
theorem TQ.below {w W W' : World} {b : Nat} {l : List UInt8} {k : Nat} {bad : Bool} (h : TQ w W b l k bad) (hb : Below W.heap.size W W') : TQ w W' b l k bad :=
  ⟨ObjAt.below h.1 hb (ObjAt.lt h.1), h.2.1.below hb h.2.1.lt, h.2.2.1, qbelow h.2.2.2 (hb.mono h.2.2.2.size)⟩
theorem TQ.put {w W : World} {b : Nat} {l : List UInt8} {k : Nat} {bad : Bool} (h : TQ w W b l k bad) (cs : List Value) (m : Nat) (hm : w.heap.size < m) : TQ w (aggW W m cs) b l k bad :=
  ⟨aggW_other h.1 _ (by have := h.2.2.1; omega), aggW_other h.2.1 _ (by omega), h.2.2.1, qbelow h.2.2.2 (aggW_below (Below.refl _ _) (by omega) _)⟩
theorem TQ.done {w W : World} {b : Nat} {l : List UInt8} {k : Nat} {bad : Bool} (h : TQ w W b l k bad) (cs : List Value) (hc : cs.length = 17) :
    row? (aggW W w.heap.size cs) w.heap.size 0 17 = some cs ∧ RdAt (aggW W w.heap.size cs) b l k bad ∧ w.grownBy (aggW W w.heap.size cs) (some b) :=
  ⟨aggW_row (obj_free h.2.1 (by simp)) hc, aggW_other h.1 _ (by have := h.2.2.1; omega), qbelow h.2.2.2 (aggW_below (Below.refl _ _) (Nat.le_refl _) _)⟩
def adV (t : List UInt8) : Bool := decide (t.length = 16)
def adL (t : List UInt8) : List UInt8 := if t.length = 16 then t else List.replicate 16 0
theorem adL_length (t : List UInt8) : (adL t).length = 16 := by unfold adL; split <;> simp_all
theorem read_took (l : List UInt8) (bad : Bool) (w : World) : ∃ c, Calls Tryz.prog 215 #[.string (Str (takeV l bad 16))] w fun e w' => e = .returned (.tuple #[.agg (addrC (adV (takeV l bad 16)) (adL (takeV l bad 16))).toArray, .int .i64 c]) ∧ Below w.heap.size w w' := by
  by_cases h : (takeV l bad 16).length = 16
  · refine ⟨0, ?_⟩
    have := read_good true (takeV l bad 16) (by omega) (by rw [h]; rfl) (by rw [h]; rfl) w
    unfold adV adL
    rw [if_pos h, decide_eq_true h]
    rw [show readV (takeV l bad 16) = takeV l bad 16 by unfold readV; rw [h]; simp] at this
    exact this
  · refine ⟨2, ?_⟩
    have h0 : takeV l bad 16 = [] := takeV_all l bad 16 h
    have := read_bad (takeV l bad 16) (by rw [h0]; simp) (by rw [h0]; rfl) (by rw [h0]; rfl) w
    unfold adV adL
    rw [if_neg h, decide_eq_false h]
    exact this
end Go.Proofs.YtlbdehegknehiaaGreat

