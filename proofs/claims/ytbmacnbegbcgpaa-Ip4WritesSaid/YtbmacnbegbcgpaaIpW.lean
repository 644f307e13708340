/-
  The document's own bytes of a packet of IPv4.
-/
import Derived.Test.YtbmacnbegbcgpaaIpA
namespace Go.Proofs.Ytbmacnbegbcgpaa
open Go.RowKit
set_option linter.unusedVariables false
attribute [local go_sem ↓] bld_ip ld_ip st_ip ld_addr st_addr
attribute [local go_sem] ldr_ip str_ip ldr_addr str_addr

def optL (al : Bool) : List UInt8 := if al then [148, 4, 0, 0] else []
/-- The header ahead of its check, and behind it. -/
def Ip.ha (p : Ip) : List UInt8 := putL (69 + (optL p.al).length / 4) 1 ++ (putL p.tos.toNat 1 ++ (putL (20 + (optL p.al).length + p.bd.length) 2 ++ (putL p.id.toNat 2 ++ (putL 0 2 ++ (putL p.ttl.toNat 1 ++ putL p.pro.toNat 1)))))
def Ip.hb (p : Ip) : List UInt8 := p.fr.take 4 ++ (p.to.take 4 ++ optL p.al)
def Ip.chk (p : Ip) : Nat := 65535 - foldN (wsum (p.ha ++ p.hb))
def Ip.wrt (p : Ip) : List UInt8 := p.ha ++ (putL p.chk 2 ++ (p.hb ++ p.bd))
theorem Ip.ha_length (p : Ip) : p.ha.length = 10 := by unfold Ip.ha; simp [putL_length]
theorem Ip.hb_length (p : Ip) (ho : p.ok) : p.hb.length = 8 + (if p.al then 4 else 0) := by unfold Ip.hb optL; cases p.al <;> simp [ho.1, ho.2]

set_option maxRecDepth 100000 in
set_option maxHeartbeats 4000000 in
theorem rwrite5_al (p : Ip) (ho : p.ok) (hal : p.al = true) (hn : p.nums = true) (hf : p.f6 = false) (ht : p.t6 = false) (hl : p.bd.length ≤ 100000) (w : World) : Calls Try.prog 13 #[.agg (ipC p).toArray] w fun x w' => x = .returned (.string (Str p.wrt)) ∧ Below w.heap.size w w' := by
  have HB := Lib.hid (IB.made w p)
  unfold Ip.nums at hn
  rw [decide_eq_true_eq] at hn
  obtain ⟨a0, a1, a2, a3, a4, a5, a6, a7⟩ := hn
  obtain ⟨n0, e0⟩ := Int.eq_ofNat_of_zero_le a0
  obtain ⟨n1, e1⟩ := Int.eq_ofNat_of_zero_le a6
  obtain ⟨n2, e2⟩ := Int.eq_ofNat_of_zero_le a2
  obtain ⟨n3, e3⟩ := Int.eq_ofNat_of_zero_le a4
  have hsz := Str_size p.bd
  have HM0 : Hid (∀ W, Calls Try.prog 29 #[.int .i64 70, .int .i64 1] W fun x w' => x = .returned (.string (Str (putL 70 1))) ∧ Below W.heap.size W w') := Lib.hid fun W => rnum5_any 70 (by omega) 1 (by omega) W
  have HM1 : Hid (∀ W, Calls Try.prog 29 #[.int .i64 n0, .int .i64 1] W fun x w' => x = .returned (.string (Str (putL n0 1))) ∧ Below W.heap.size W w') := Lib.hid fun W => rnum5_any n0 (by omega) 1 (by omega) W
  have HM2 : Hid (∀ W, Calls Try.prog 29 #[.int .i64 (24 + (p.bd.length : Int)), .int .i64 2] W fun x w' => x = .returned (.string (Str (putL (24 + p.bd.length) 2))) ∧ Below W.heap.size W w') := Lib.hid fun W => by
    have := rnum5_any (24 + p.bd.length) (by omega) 2 (by omega) W
    rw [show ((24 + p.bd.length : Nat) : Int) = 24 + (p.bd.length : Int) by omega] at this
    exact this
  have HM3 : Hid (∀ W, Calls Try.prog 29 #[.int .i64 n1, .int .i64 2] W fun x w' => x = .returned (.string (Str (putL n1 2))) ∧ Below W.heap.size W w') := Lib.hid fun W => rnum5_any n1 (by omega) 2 (by omega) W
  have HM4 : Hid (∀ W, Calls Try.prog 29 #[.int .i64 0, .int .i64 2] W fun x w' => x = .returned (.string (Str (putL 0 2))) ∧ Below W.heap.size W w') := Lib.hid fun W => rnum5_any 0 (by omega) 2 (by omega) W
  have HM5 : Hid (∀ W, Calls Try.prog 29 #[.int .i64 n2, .int .i64 1] W fun x w' => x = .returned (.string (Str (putL n2 1))) ∧ Below W.heap.size W w') := Lib.hid fun W => rnum5_any n2 (by omega) 1 (by omega) W
  have HM6 : Hid (∀ W, Calls Try.prog 29 #[.int .i64 n3, .int .i64 1] W fun x w' => x = .returned (.string (Str (putL n3 1))) ∧ Below W.heap.size W w') := Lib.hid fun W => rnum5_any n3 (by omega) 1 (by omega) W
  have hA : p.ha = putL 70 1 ++ (putL n0 1 ++ (putL (24 + p.bd.length) 2 ++ (putL n1 2 ++ (putL 0 2 ++ (putL n2 1 ++ putL n3 1))))) := by
    unfold Ip.ha
    rw [hal, e0, e1, e2, e3]
    rfl
  have hBB : p.hb = p.fr.take 4 ++ (p.to.take 4 ++ [148, 4, 0, 0]) := by unfold Ip.hb; rw [hal]; rfl
  have hal0 := Ip.ha_length p
  have hbl0 := Ip.hb_length p ho
  rw [hal] at hbl0
  simp at hbl0
  have hwrt : p.wrt = p.ha ++ (putL p.chk 2 ++ (p.hb ++ p.bd)) := rfl
  have hchk := foldN_le (wsum (p.ha ++ p.hb))
  have HSUM : Hid (∀ W, Calls Try.prog 31 #[.string (Str (p.ha ++ p.hb))] W fun e w' => e = .returned (.int .i64 (foldN (wsum (p.ha ++ p.hb)))) ∧ w' = W) := Lib.hid fun W => (rsum_any (p.ha ++ p.hb) (by simp; omega) W).mono fun _ _ h => ⟨h.1, h.2.symm⟩
  have HM7 : Hid (∀ W, Calls Try.prog 29 #[.int .i64 (65535 - (foldN (wsum (p.ha ++ p.hb)) : Int)), .int .i64 2] W fun x w' => x = .returned (.string (Str (putL p.chk 2))) ∧ Below W.heap.size W w') := Lib.hid fun W => by
    have := rnum5_any p.chk (by unfold Ip.chk; omega) 2 (by omega) W
    rw [show ((p.chk : Nat) : Int) = 65535 - (foldN (wsum (p.ha ++ p.hb)) : Int) by unfold Ip.chk; omega] at this
    exact this
  have HBY1 : Hid (∀ W, Calls Try.prog 30 #[.agg (addrC p.f6 p.fr).toArray] W fun e w' => e = .returned (.string (Str (p.fr.take 4))) ∧ Below W.heap.size W w') := Lib.hid fun W => by
    have := rbytes_any p.f6 p.fr ho.1 W
    rw [hf] at this ⊢; exact this
  have HBY2 : Hid (∀ W, Calls Try.prog 30 #[.agg (addrC p.t6 p.to).toArray] W fun e w' => e = .returned (.string (Str (p.to.take 4))) ∧ Below W.heap.size W w') := Lib.hid fun W => by
    have := rbytes_any p.t6 p.to ho.2 W
    rw [ht] at this ⊢; exact this
  have HK4 : Hid (∀ W, IB w W p → W.cell? ⟨w.heap.size, 0, none⟩ = some (.int .i64 n0) ∧ W.cell? ⟨w.heap.size, 1, none⟩ = some (.int .i64 n1) ∧ W.cell? ⟨w.heap.size, 2, none⟩ = some (.int .i64 n2) ∧ W.cell? ⟨w.heap.size, 3, none⟩ = some (.int .i64 n3) ∧ W.cell? ⟨w.heap.size, 39, none⟩ = some (.string (Str p.bd)) ∧ IB w W p) := Lib.hid fun W h => by
    have h1 := h.1.tos; have h2 := h.1.id; have h3 := h.1.ttl; have h4 := h.1.pro
    rw [e0] at h1; rw [e1] at h2; rw [e2] at h3; rw [e3] at h4
    exact ⟨h1, h2, h3, h4, h.1.bd ho, h⟩
  have HK5 : Hid (∀ W, IB w W p → row? W w.heap.size 4 17 = some (addrC p.f6 p.fr) ∧ row? W w.heap.size 21 17 = some (addrC p.t6 p.to) ∧ IB w W p) := Lib.hid fun W h => ⟨h.1.rfr ho, h.1.rto ho, h⟩
  have HK6 : Hid (∀ W, IB w W p → W.cell? ⟨w.heap.size, 39, none⟩ = some (.string (Str p.bd)) ∧ IB w W p) := Lib.hid fun W h => ⟨h.1.bd ho, h⟩
  have HAL : Hid (∀ W, IB w W p → W.cell? ⟨w.heap.size, 38, none⟩ = some (.bool true)) := Lib.hid fun W h => by rw [← hal]; exact h.1.al ho
  have z0 := putL_length 70 1; have z1 := putL_length n0 1; have z2 := putL_length (24 + p.bd.length) 2; have z3 := putL_length n1 2; have z4 := putL_length 0 2; have z5 := putL_length n2 1; have z6 := putL_length n3 1; have z7 := putL_length p.chk 2
  generalize putL 70 1 = x0 at HM0 hA z0
  generalize putL n0 1 = x1 at HM1 hA z1
  generalize putL (24 + p.bd.length) 2 = x2 at HM2 hA z2
  generalize putL n1 2 = x3 at HM3 hA z3
  generalize putL 0 2 = x4 at HM4 hA z4
  generalize putL n2 1 = x5 at HM5 hA z5
  generalize putL n3 1 = x6 at HM6 hA z6
  generalize putL p.chk 2 = x7 at HM7 hwrt z7
  have hz8 : (p.fr.take 4).length ≤ 4 := by simp; omega
  have hz9 : (p.to.take 4).length ≤ 4 := by simp; omega
  generalize p.fr.take 4 = f4 at HBY1 hBB hz8
  generalize p.to.take 4 = t4 at HBY2 hBB hz9
  generalize p.wrt = WR at hwrt ⊢
  generalize foldN (wsum (p.ha ++ p.hb)) = fs at HSUM HM7 hchk
  generalize p.ha = A at hA hwrt HSUM hal0
  generalize p.hb = B at hBB hwrt HSUM hbl0
  have c1 := run_cat (P := Try.prog) x0 x1 (by omega)
  have c2 := run_cat (P := Try.prog) (x0 ++ x1) x2 (by simp; omega)
  have c3 := run_cat (P := Try.prog) (x0 ++ (x1 ++ x2)) x3 (by simp; omega)
  have c4 := run_cat (P := Try.prog) (x0 ++ (x1 ++ (x2 ++ x3))) x4 (by simp; omega)
  have c5 := run_cat (P := Try.prog) (x0 ++ (x1 ++ (x2 ++ (x3 ++ x4)))) x5 (by simp; omega)
  have c6 := run_cat (P := Try.prog) (x0 ++ (x1 ++ (x2 ++ (x3 ++ (x4 ++ x5))))) x6 (by simp; omega)
  simp only [List.append_assoc] at c2 c3 c4 c5 c6
  rw [← hA] at c6
  have d1 := run_cat (P := Try.prog) f4 t4 (by omega)
  have d2 : ∀ w, (Op.stringOp .add (Str (f4 ++ t4)) ⟨#[148, 4, 0, 0]⟩).run Try.prog w = .ok (.string (Str B)) w := fun w => by
    have := run_cat (P := Try.prog) (f4 ++ t4) [148, 4, 0, 0] (by simp; omega) w
    rw [List.append_assoc] at this
    rw [hBB]; exact this
  have g1 := run_cat (P := Try.prog) A B (by omega)
  have g2 := run_cat (P := Try.prog) A x7 (by omega)
  have g3 := run_cat (P := Try.prog) (A ++ x7) B (by simp; omega)
  have g4 := run_cat (P := Try.prog) (A ++ (x7 ++ B)) p.bd (by simp; omega)
  simp only [List.append_assoc] at g3 g4
  rw [← hwrt] at g4
  have w1 : IntKind.i64.wrap 1 = 1 := by simp only [IntKind.wrap_i64]; omega
  have w2 : IntKind.i64.wrap 70 = 70 := by simp only [IntKind.wrap_i64]; omega
  have w3 : IntKind.i64.wrap 24 = 24 := by simp only [IntKind.wrap_i64]; omega
  have w4 : IntKind.i64.wrap (24 + (p.bd.length : Int)) = 24 + (p.bd.length : Int) := by simp only [IntKind.wrap_i64]; omega
  have w5 : IntKind.i64.wrap (65535 - (fs : Int)) = 65535 - (fs : Int) := by simp only [IntKind.wrap_i64]; omega
  have Hl := Lib.hid hl
  clear hA hBB hwrt hal0 hbl0 z0 z1 z2 z3 z4 z5 z6 z7 hz8 hz9 e0 e1 e2 e3 a0 a1 a2 a3 a4 a5 a6 a7 ho hf ht hal
  go_enter Try.func13, Try.ntmps13
  go_upto_region 1 with (fail)
  generalize w.alloc (.cells (ipC p).toArray 26) = W at HB ⊢
  have hal := HAL.out _ HB.out
  go_upto_region 4 with (fail)
  clear hal
  go_region_held3 (fun W => W.cell? ⟨w.heap.size, 0, none⟩ = some (.int .i64 n0) ∧ W.cell? ⟨w.heap.size, 1, none⟩ = some (.int .i64 n1) ∧ W.cell? ⟨w.heap.size, 2, none⟩ = some (.int .i64 n2) ∧ W.cell? ⟨w.heap.size, 3, none⟩ = some (.int .i64 n3) ∧ W.cell? ⟨w.heap.size, 39, none⟩ = some (.string (Str p.bd)) ∧ IB w W p) (first | assumption | exact HK4.out _ HB.out | exact HK4.out _ (HB.out.drewN 1)) (first
    | (go_at_call 29; (with_reducible refine (HM0.out _).mono ?_); rintro x w3 ⟨rfl, hb3⟩; have hk := HK4.out _ (IB.keep (And.right (And.right (And.right (And.right (And.right (by assumption)))))) hb3); clear hb3)
    | (go_at_call 29; (with_reducible refine (HM1.out _).mono ?_); rintro x w3 ⟨rfl, hb3⟩; have hk := HK4.out _ (IB.keep (And.right (And.right (And.right (And.right (And.right (by assumption)))))) hb3); clear hb3)
    | (go_at_call 29; (with_reducible refine (HM2.out _).mono ?_); rintro x w3 ⟨rfl, hb3⟩; have hk := HK4.out _ (IB.keep (And.right (And.right (And.right (And.right (And.right (by assumption)))))) hb3); clear hb3)
    | (go_at_call 29; (with_reducible refine (HM3.out _).mono ?_); rintro x w3 ⟨rfl, hb3⟩; have hk := HK4.out _ (IB.keep (And.right (And.right (And.right (And.right (And.right (by assumption)))))) hb3); clear hb3)
    | (go_at_call 29; (with_reducible refine (HM4.out _).mono ?_); rintro x w3 ⟨rfl, hb3⟩; have hk := HK4.out _ (IB.keep (And.right (And.right (And.right (And.right (And.right (by assumption)))))) hb3); clear hb3)
    | (go_at_call 29; (with_reducible refine (HM5.out _).mono ?_); rintro x w3 ⟨rfl, hb3⟩; have hk := HK4.out _ (IB.keep (And.right (And.right (And.right (And.right (And.right (by assumption)))))) hb3); clear hb3)
    | (go_at_call 29; (with_reducible refine (HM6.out _).mono ?_); rintro x w3 ⟨rfl, hb3⟩; have hk := HK4.out _ (IB.keep (And.right (And.right (And.right (And.right (And.right (by assumption)))))) hb3); clear hb3))
  have HB4 := Lib.hid hk.2.2.2.2.2
  clear hk
  go_upto_region 5 with (fail)
  go_region_held3 (fun W => row? W w.heap.size 4 17 = some (addrC p.f6 p.fr) ∧ row? W w.heap.size 21 17 = some (addrC p.t6 p.to) ∧ IB w W p) (first | assumption | exact HK5.out _ HB4.out | exact HK5.out _ (HB4.out.drewN 1)) (first
    | (go_at_call 30; (with_reducible refine (HBY1.out _).mono ?_); rintro x w3 ⟨rfl, hb3⟩; have hk := HK5.out _ (IB.keep (And.right (And.right (by assumption))) hb3); clear hb3)
    | (go_at_call 30; (with_reducible refine (HBY2.out _).mono ?_); rintro x w3 ⟨rfl, hb3⟩; have hk := HK5.out _ (IB.keep (And.right (And.right (by assumption))) hb3); clear hb3))
  have HB5 := Lib.hid hk.2.2
  clear hk
  go_upto_region 6 with (fail)
  go_region_held3 (fun W => W.cell? ⟨w.heap.size, 39, none⟩ = some (.string (Str p.bd)) ∧ IB w W p) (first | assumption | exact HK6.out _ HB5.out | exact HK6.out _ (HB5.out.drewN 1)) (first
    | (go_at_call 31; (with_reducible refine (HSUM.out _).mono ?_); rintro x w3 ⟨rfl, hw⟩; subst hw)
    | (go_at_call 29; (with_reducible refine (HM7.out _).mono ?_); rintro x w3 ⟨rfl, hb3⟩; have hk := HK6.out _ (IB.keep (And.right (by assumption)) hb3); clear hb3))
  go_wp2_with fail
  go_ret
  exact ⟨rfl, hk.2.2⟩

set_option maxRecDepth 100000 in
set_option maxHeartbeats 4000000 in
theorem rwrite5_no (p : Ip) (ho : p.ok) (hal : p.al = false) (hn : p.nums = true) (hf : p.f6 = false) (ht : p.t6 = false) (hl : p.bd.length ≤ 100000) (w : World) : Calls Try.prog 13 #[.agg (ipC p).toArray] w fun x w' => x = .returned (.string (Str p.wrt)) ∧ Below w.heap.size w w' := by
  have HB := Lib.hid (IB.made w p)
  unfold Ip.nums at hn
  rw [decide_eq_true_eq] at hn
  obtain ⟨a0, a1, a2, a3, a4, a5, a6, a7⟩ := hn
  obtain ⟨n0, e0⟩ := Int.eq_ofNat_of_zero_le a0
  obtain ⟨n1, e1⟩ := Int.eq_ofNat_of_zero_le a6
  obtain ⟨n2, e2⟩ := Int.eq_ofNat_of_zero_le a2
  obtain ⟨n3, e3⟩ := Int.eq_ofNat_of_zero_le a4
  have hsz := Str_size p.bd
  have HM0 : Hid (∀ W, Calls Try.prog 29 #[.int .i64 69, .int .i64 1] W fun x w' => x = .returned (.string (Str (putL 69 1))) ∧ Below W.heap.size W w') := Lib.hid fun W => rnum5_any 69 (by omega) 1 (by omega) W
  have HM1 : Hid (∀ W, Calls Try.prog 29 #[.int .i64 n0, .int .i64 1] W fun x w' => x = .returned (.string (Str (putL n0 1))) ∧ Below W.heap.size W w') := Lib.hid fun W => rnum5_any n0 (by omega) 1 (by omega) W
  have HM2 : Hid (∀ W, Calls Try.prog 29 #[.int .i64 (20 + (p.bd.length : Int)), .int .i64 2] W fun x w' => x = .returned (.string (Str (putL (20 + p.bd.length) 2))) ∧ Below W.heap.size W w') := Lib.hid fun W => by
    have := rnum5_any (20 + p.bd.length) (by omega) 2 (by omega) W
    rw [show ((20 + p.bd.length : Nat) : Int) = 20 + (p.bd.length : Int) by omega] at this
    exact this
  have HM3 : Hid (∀ W, Calls Try.prog 29 #[.int .i64 n1, .int .i64 2] W fun x w' => x = .returned (.string (Str (putL n1 2))) ∧ Below W.heap.size W w') := Lib.hid fun W => rnum5_any n1 (by omega) 2 (by omega) W
  have HM4 : Hid (∀ W, Calls Try.prog 29 #[.int .i64 0, .int .i64 2] W fun x w' => x = .returned (.string (Str (putL 0 2))) ∧ Below W.heap.size W w') := Lib.hid fun W => rnum5_any 0 (by omega) 2 (by omega) W
  have HM5 : Hid (∀ W, Calls Try.prog 29 #[.int .i64 n2, .int .i64 1] W fun x w' => x = .returned (.string (Str (putL n2 1))) ∧ Below W.heap.size W w') := Lib.hid fun W => rnum5_any n2 (by omega) 1 (by omega) W
  have HM6 : Hid (∀ W, Calls Try.prog 29 #[.int .i64 n3, .int .i64 1] W fun x w' => x = .returned (.string (Str (putL n3 1))) ∧ Below W.heap.size W w') := Lib.hid fun W => rnum5_any n3 (by omega) 1 (by omega) W
  have hA : p.ha = putL 69 1 ++ (putL n0 1 ++ (putL (20 + p.bd.length) 2 ++ (putL n1 2 ++ (putL 0 2 ++ (putL n2 1 ++ putL n3 1))))) := by
    unfold Ip.ha
    rw [hal, e0, e1, e2, e3]
    rfl
  have hBB : p.hb = p.fr.take 4 ++ (p.to.take 4 ++ []) := by unfold Ip.hb; rw [hal]; rfl
  have hal0 := Ip.ha_length p
  have hbl0 := Ip.hb_length p ho
  rw [hal] at hbl0
  simp at hbl0
  have hwrt : p.wrt = p.ha ++ (putL p.chk 2 ++ (p.hb ++ p.bd)) := rfl
  have hchk := foldN_le (wsum (p.ha ++ p.hb))
  have HSUM : Hid (∀ W, Calls Try.prog 31 #[.string (Str (p.ha ++ p.hb))] W fun e w' => e = .returned (.int .i64 (foldN (wsum (p.ha ++ p.hb)))) ∧ w' = W) := Lib.hid fun W => (rsum_any (p.ha ++ p.hb) (by simp; omega) W).mono fun _ _ h => ⟨h.1, h.2.symm⟩
  have HM7 : Hid (∀ W, Calls Try.prog 29 #[.int .i64 (65535 - (foldN (wsum (p.ha ++ p.hb)) : Int)), .int .i64 2] W fun x w' => x = .returned (.string (Str (putL p.chk 2))) ∧ Below W.heap.size W w') := Lib.hid fun W => by
    have := rnum5_any p.chk (by unfold Ip.chk; omega) 2 (by omega) W
    rw [show ((p.chk : Nat) : Int) = 65535 - (foldN (wsum (p.ha ++ p.hb)) : Int) by unfold Ip.chk; omega] at this
    exact this
  have HBY1 : Hid (∀ W, Calls Try.prog 30 #[.agg (addrC p.f6 p.fr).toArray] W fun e w' => e = .returned (.string (Str (p.fr.take 4))) ∧ Below W.heap.size W w') := Lib.hid fun W => by
    have := rbytes_any p.f6 p.fr ho.1 W
    rw [hf] at this ⊢; exact this
  have HBY2 : Hid (∀ W, Calls Try.prog 30 #[.agg (addrC p.t6 p.to).toArray] W fun e w' => e = .returned (.string (Str (p.to.take 4))) ∧ Below W.heap.size W w') := Lib.hid fun W => by
    have := rbytes_any p.t6 p.to ho.2 W
    rw [ht] at this ⊢; exact this
  have HK4 : Hid (∀ W, IB w W p → W.cell? ⟨w.heap.size, 0, none⟩ = some (.int .i64 n0) ∧ W.cell? ⟨w.heap.size, 1, none⟩ = some (.int .i64 n1) ∧ W.cell? ⟨w.heap.size, 2, none⟩ = some (.int .i64 n2) ∧ W.cell? ⟨w.heap.size, 3, none⟩ = some (.int .i64 n3) ∧ W.cell? ⟨w.heap.size, 39, none⟩ = some (.string (Str p.bd)) ∧ IB w W p) := Lib.hid fun W h => by
    have h1 := h.1.tos; have h2 := h.1.id; have h3 := h.1.ttl; have h4 := h.1.pro
    rw [e0] at h1; rw [e1] at h2; rw [e2] at h3; rw [e3] at h4
    exact ⟨h1, h2, h3, h4, h.1.bd ho, h⟩
  have HK5 : Hid (∀ W, IB w W p → row? W w.heap.size 4 17 = some (addrC p.f6 p.fr) ∧ row? W w.heap.size 21 17 = some (addrC p.t6 p.to) ∧ IB w W p) := Lib.hid fun W h => ⟨h.1.rfr ho, h.1.rto ho, h⟩
  have HK6 : Hid (∀ W, IB w W p → W.cell? ⟨w.heap.size, 39, none⟩ = some (.string (Str p.bd)) ∧ IB w W p) := Lib.hid fun W h => ⟨h.1.bd ho, h⟩
  have HAL : Hid (∀ W, IB w W p → W.cell? ⟨w.heap.size, 38, none⟩ = some (.bool false)) := Lib.hid fun W h => by rw [← hal]; exact h.1.al ho
  have z0 := putL_length 69 1; have z1 := putL_length n0 1; have z2 := putL_length (20 + p.bd.length) 2; have z3 := putL_length n1 2; have z4 := putL_length 0 2; have z5 := putL_length n2 1; have z6 := putL_length n3 1; have z7 := putL_length p.chk 2
  generalize putL 69 1 = x0 at HM0 hA z0
  generalize putL n0 1 = x1 at HM1 hA z1
  generalize putL (20 + p.bd.length) 2 = x2 at HM2 hA z2
  generalize putL n1 2 = x3 at HM3 hA z3
  generalize putL 0 2 = x4 at HM4 hA z4
  generalize putL n2 1 = x5 at HM5 hA z5
  generalize putL n3 1 = x6 at HM6 hA z6
  generalize putL p.chk 2 = x7 at HM7 hwrt z7
  have hz8 : (p.fr.take 4).length ≤ 4 := by simp; omega
  have hz9 : (p.to.take 4).length ≤ 4 := by simp; omega
  generalize p.fr.take 4 = f4 at HBY1 hBB hz8
  generalize p.to.take 4 = t4 at HBY2 hBB hz9
  generalize p.wrt = WR at hwrt ⊢
  generalize foldN (wsum (p.ha ++ p.hb)) = fs at HSUM HM7 hchk
  generalize p.ha = A at hA hwrt HSUM hal0
  generalize p.hb = B at hBB hwrt HSUM hbl0
  have c1 := run_cat (P := Try.prog) x0 x1 (by omega)
  have c2 := run_cat (P := Try.prog) (x0 ++ x1) x2 (by simp; omega)
  have c3 := run_cat (P := Try.prog) (x0 ++ (x1 ++ x2)) x3 (by simp; omega)
  have c4 := run_cat (P := Try.prog) (x0 ++ (x1 ++ (x2 ++ x3))) x4 (by simp; omega)
  have c5 := run_cat (P := Try.prog) (x0 ++ (x1 ++ (x2 ++ (x3 ++ x4)))) x5 (by simp; omega)
  have c6 := run_cat (P := Try.prog) (x0 ++ (x1 ++ (x2 ++ (x3 ++ (x4 ++ x5))))) x6 (by simp; omega)
  simp only [List.append_assoc] at c2 c3 c4 c5 c6
  rw [← hA] at c6
  have d1 := run_cat (P := Try.prog) f4 t4 (by omega)
  have d2 : ∀ w, (Op.stringOp .add (Str (f4 ++ t4)) ⟨#[]⟩).run Try.prog w = .ok (.string (Str B)) w := fun w => by
    have := run_cat (P := Try.prog) (f4 ++ t4) [] (by simp; omega) w
    rw [List.append_assoc] at this
    rw [hBB]; exact this
  have g1 := run_cat (P := Try.prog) A B (by omega)
  have g2 := run_cat (P := Try.prog) A x7 (by omega)
  have g3 := run_cat (P := Try.prog) (A ++ x7) B (by simp; omega)
  have g4 := run_cat (P := Try.prog) (A ++ (x7 ++ B)) p.bd (by simp; omega)
  simp only [List.append_assoc] at g3 g4
  rw [← hwrt] at g4
  have w1 : IntKind.i64.wrap 0 = 0 := by simp only [IntKind.wrap_i64]; omega
  have w2 : IntKind.i64.wrap 69 = 69 := by simp only [IntKind.wrap_i64]; omega
  have w3 : IntKind.i64.wrap 20 = 20 := by simp only [IntKind.wrap_i64]; omega
  have w4 : IntKind.i64.wrap (20 + (p.bd.length : Int)) = 20 + (p.bd.length : Int) := by simp only [IntKind.wrap_i64]; omega
  have w5 : IntKind.i64.wrap (65535 - (fs : Int)) = 65535 - (fs : Int) := by simp only [IntKind.wrap_i64]; omega
  have Hl := Lib.hid hl
  clear hA hBB hwrt hal0 hbl0 z0 z1 z2 z3 z4 z5 z6 z7 hz8 hz9 e0 e1 e2 e3 a0 a1 a2 a3 a4 a5 a6 a7 ho hf ht hal
  go_enter Try.func13, Try.ntmps13
  go_upto_region 1 with (fail)
  generalize w.alloc (.cells (ipC p).toArray 26) = W at HB ⊢
  have hal := HAL.out _ HB.out
  go_upto_region 4 with (fail)
  clear hal
  go_region_held3 (fun W => W.cell? ⟨w.heap.size, 0, none⟩ = some (.int .i64 n0) ∧ W.cell? ⟨w.heap.size, 1, none⟩ = some (.int .i64 n1) ∧ W.cell? ⟨w.heap.size, 2, none⟩ = some (.int .i64 n2) ∧ W.cell? ⟨w.heap.size, 3, none⟩ = some (.int .i64 n3) ∧ W.cell? ⟨w.heap.size, 39, none⟩ = some (.string (Str p.bd)) ∧ IB w W p) (first | assumption | exact HK4.out _ HB.out | exact HK4.out _ (HB.out.drewN 1)) (first
    | (go_at_call 29; (with_reducible refine (HM0.out _).mono ?_); rintro x w3 ⟨rfl, hb3⟩; have hk := HK4.out _ (IB.keep (And.right (And.right (And.right (And.right (And.right (by assumption)))))) hb3); clear hb3)
    | (go_at_call 29; (with_reducible refine (HM1.out _).mono ?_); rintro x w3 ⟨rfl, hb3⟩; have hk := HK4.out _ (IB.keep (And.right (And.right (And.right (And.right (And.right (by assumption)))))) hb3); clear hb3)
    | (go_at_call 29; (with_reducible refine (HM2.out _).mono ?_); rintro x w3 ⟨rfl, hb3⟩; have hk := HK4.out _ (IB.keep (And.right (And.right (And.right (And.right (And.right (by assumption)))))) hb3); clear hb3)
    | (go_at_call 29; (with_reducible refine (HM3.out _).mono ?_); rintro x w3 ⟨rfl, hb3⟩; have hk := HK4.out _ (IB.keep (And.right (And.right (And.right (And.right (And.right (by assumption)))))) hb3); clear hb3)
    | (go_at_call 29; (with_reducible refine (HM4.out _).mono ?_); rintro x w3 ⟨rfl, hb3⟩; have hk := HK4.out _ (IB.keep (And.right (And.right (And.right (And.right (And.right (by assumption)))))) hb3); clear hb3)
    | (go_at_call 29; (with_reducible refine (HM5.out _).mono ?_); rintro x w3 ⟨rfl, hb3⟩; have hk := HK4.out _ (IB.keep (And.right (And.right (And.right (And.right (And.right (by assumption)))))) hb3); clear hb3)
    | (go_at_call 29; (with_reducible refine (HM6.out _).mono ?_); rintro x w3 ⟨rfl, hb3⟩; have hk := HK4.out _ (IB.keep (And.right (And.right (And.right (And.right (And.right (by assumption)))))) hb3); clear hb3))
  have HB4 := Lib.hid hk.2.2.2.2.2
  clear hk
  go_upto_region 5 with (fail)
  go_region_held3 (fun W => row? W w.heap.size 4 17 = some (addrC p.f6 p.fr) ∧ row? W w.heap.size 21 17 = some (addrC p.t6 p.to) ∧ IB w W p) (first | assumption | exact HK5.out _ HB4.out | exact HK5.out _ (HB4.out.drewN 1)) (first
    | (go_at_call 30; (with_reducible refine (HBY1.out _).mono ?_); rintro x w3 ⟨rfl, hb3⟩; have hk := HK5.out _ (IB.keep (And.right (And.right (by assumption))) hb3); clear hb3)
    | (go_at_call 30; (with_reducible refine (HBY2.out _).mono ?_); rintro x w3 ⟨rfl, hb3⟩; have hk := HK5.out _ (IB.keep (And.right (And.right (by assumption))) hb3); clear hb3))
  have HB5 := Lib.hid hk.2.2
  clear hk
  go_upto_region 6 with (fail)
  go_region_held3 (fun W => W.cell? ⟨w.heap.size, 39, none⟩ = some (.string (Str p.bd)) ∧ IB w W p) (first | assumption | exact HK6.out _ HB5.out | exact HK6.out _ (HB5.out.drewN 1)) (first
    | (go_at_call 31; (with_reducible refine (HSUM.out _).mono ?_); rintro x w3 ⟨rfl, hw⟩; subst hw)
    | (go_at_call 29; (with_reducible refine (HM7.out _).mono ?_); rintro x w3 ⟨rfl, hb3⟩; have hk := HK6.out _ (IB.keep (And.right (by assumption)) hb3); clear hb3))
  go_wp2_with fail
  go_ret
  exact ⟨rfl, hk.2.2⟩
end Go.Proofs.Ytbmacnbegbcgpaa
