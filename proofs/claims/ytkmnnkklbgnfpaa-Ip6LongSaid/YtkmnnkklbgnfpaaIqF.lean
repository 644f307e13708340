/-
  The contract of ip6.Write of a good packet.
-/
import Derived.Test.YtkmnnkklbgnfpaaIqE
namespace Go.Proofs.Ytkmnnkklbgnfpaa
open Go.RowKit
set_option linter.unusedVariables false
attribute [local go_sem ↓] bld_iq ld_iq st_iq ld_addr st_addr
attribute [local go_sem] ldr_iq str_iq ldr_addr str_addr

theorem or_vers (a : Nat) (ha : a < 256) : bits BinOp.or IntKind.i64 1610612736 ((a : Int) * 1048576) = ((1610612736 + a * 1048576 : Nat) : Int) := by
  rw [show ((a : Int) * 1048576) = ((a * 1048576 : Nat) : Int) by omega, show (1610612736 : Int) = ((1610612736 : Nat) : Int) from rfl, bits_or_i64_nat _ _ (by omega) (by omega)]
  rw [show (1610612736 : Nat) = 6 <<< 28 by decide, ← Nat.shiftLeft_add_eq_or_of_lt (by omega)]
theorem or_flow (a b : Nat) (ha : a < 256) (hb : b < 1048576) : bits BinOp.or IntKind.i64 ((1610612736 + a * 1048576 : Nat) : Int) (b : Int) = ((1610612736 + a * 1048576 + b : Nat) : Int) := by
  rw [bits_or_i64_nat _ _ (by omega) (by omega)]
  rw [show 1610612736 + a * 1048576 = (1536 + a) <<< 20 by rw [Nat.shiftLeft_eq]; omega, ← Nat.shiftLeft_add_eq_or_of_lt (by omega)]
theorem putL_first (a b : Nat) (ha : a < 256) (hb : b < 1048576) : putL (1610612736 + a * 1048576 + b) 4 = putL (96 + a / 16) 1 ++ (putL (a % 16 * 16 + b / 65536) 1 ++ putL (b % 65536) 2) := by
  simp only [putL, List.cons_append, List.nil_append, List.cons.injEq, and_true]
  refine ⟨?_, ?_, ?_, ?_⟩ <;>
  · apply UInt8.toNat_inj.1
    simp only [UInt8.toNat_ofNat']
    omega


set_option maxRecDepth 100000 in
set_option maxHeartbeats 8000000 in
theorem write6_al (p : Ip) (ho : p.ok) (hal : p.al = true) (hg : p.good6 = true) (w : World) : Calls Try.prog 8 #[.agg (ipC p).toArray] w fun x w' => x = .returned (.tuple #[.string (Str p.wrt6), .int .i64 0]) ∧ Below w.heap.size w w' := by
  have HB := Lib.hid (QB.made w p)
  obtain ⟨hnum, hf, ht, hbl⟩ := Ip.good6_parts hg
  unfold Ip.nums6 at hnum
  rw [decide_eq_true_eq] at hnum
  obtain ⟨a0, a1, a2, a3, a4, a5, a6, a7⟩ := hnum
  obtain ⟨n0, e0⟩ := Int.eq_ofNat_of_zero_le a0
  obtain ⟨n1, e1⟩ := Int.eq_ofNat_of_zero_le a6
  obtain ⟨n2, e2⟩ := Int.eq_ofNat_of_zero_le (show 0 ≤ p.ttl by omega)
  obtain ⟨n3, e3⟩ := Int.eq_ofNat_of_zero_le a2
  have HG := Lib.hid (fun W => good6_any p ho (by omega) W)
  rw [hg] at HG
  obtain ⟨z, hz⟩ : ∃ z, z = p.sz6 := ⟨_, rfl⟩
  obtain ⟨y, hy⟩ : ∃ y, y = p.sz6 - 40 := ⟨_, rfl⟩
  have hzy : (z : Int) - 40 = (y : Int) := by rw [hz, hy]; unfold Ip.sz6; omega
  have hyb : y = (if p.al then 8 else 0) + p.bd.length := by rw [hy]; unfold Ip.sz6; omega
  have hys : y ≤ 1408 := by rw [hyb]; split <;> omega
  have HS := Lib.hid (fun W => size6_any p ho n2 e2 (by omega) (by omega) W)
  rw [← hz] at HS
  have hwz : IntKind.i64.wrap ((z : Int) - 40) = (y : Int) := by rw [hzy]; simp only [IntKind.wrap_i64]; omega
  have HO := Lib.hid (fun W => opts6_any p ho n2 e2 (by omega) W)
  have hw1 : IntKind.i64.wrap ((n0 : Int) * 1048576) = (n0 : Int) * 1048576 := by simp only [IntKind.wrap_i64]; omega
  have ho1 := or_vers n0 (by omega)
  have ho2 := or_flow n0 n1 (by omega) (by omega)
  have hfst := putL_first n0 n1 (by omega) (by omega)
  obtain ⟨M, hM⟩ : ∃ M, M = 1610612736 + n0 * 1048576 := ⟨_, rfl⟩
  obtain ⟨N, hN⟩ : ∃ N, N = M + n1 := ⟨_, rfl⟩
  rw [← hM] at ho1 ho2 hfst
  rw [← hN] at ho2 hfst
  have hH : putL N 4 = p.h6 := by
    rw [hfst]
    unfold Ip.h6
    rw [e0, e1]
    rfl
  have HP0 : Hid (∀ W, Calls Try.prog 18 #[.int .i64 (N : Int), .int .i64 4] W fun x w' => x = .returned (.string (Str (putL N 4))) ∧ Below W.heap.size W w') := Lib.hid fun W => put6_any N (by omega) 4 (by omega) W
  have HP1 : Hid (∀ W, Calls Try.prog 18 #[.int .i64 (y : Int), .int .i64 2] W fun x w' => x = .returned (.string (Str (putL y 2))) ∧ Below W.heap.size W w') := Lib.hid fun W => put6_any y (by omega) 2 (by omega) W
  have HP2 : Hid (∀ W, Calls Try.prog 18 #[.int .i64 0, .int .i64 1] W fun x w' => x = .returned (.string (Str (putL 0 1))) ∧ Below W.heap.size W w') := Lib.hid fun W => put6_any 0 (by omega) 1 (by omega) W
  have HP3 : Hid (∀ W, Calls Try.prog 18 #[.int .i64 (n3 : Int), .int .i64 1] W fun x w' => x = .returned (.string (Str (putL n3 1))) ∧ Below W.heap.size W w') := Lib.hid fun W => put6_any n3 (by omega) 1 (by omega) W
  have HBY1 : Hid (∀ W, Calls Try.prog 19 #[.agg (addrC p.f6 p.fr).toArray] W fun e w' => e = .returned (.string (Str p.fr)) ∧ Below W.heap.size W w') := Lib.hid fun W => by
    have := bytes_any p.f6 p.fr ho.1 W
    rw [hf] at this ⊢; exact this
  have HBY2 : Hid (∀ W, Calls Try.prog 19 #[.agg (addrC p.t6 p.to).toArray] W fun e w' => e = .returned (.string (Str p.to)) ∧ Below W.heap.size W w') := Lib.hid fun W => by
    have := bytes_any p.t6 p.to ho.2 W
    rw [ht] at this ⊢; exact this
  rw [hH] at HP0
  have hwrt : p.wrt6 = p.h6 ++ (putL y 2 ++ (putL 0 1 ++ (putL n3 1 ++ (p.fr ++ (p.to ++ (opL6 p.al n2 ++ p.bd)))))) := by
    unfold Ip.wrt6
    rw [hyb, hal, e2, e3]
    simp [opL6, putL, Nat.add_comm]
  have z0 := Ip.h6_length p; have z1 := putL_length y 2; have z2 := putL_length 0 1; have z3 := putL_length n3 1
  have zf := ho.1; have zt := ho.2
  have zo := opL6_length p.al n2
  have zo8 : (opL6 p.al n2).length ≤ 8 := by rw [zo]; split <;> omega
  clear zo hfst hM hN
  have HK1 : Hid (∀ W, QB w W p → W.cell? ⟨w.heap.size, 0, none⟩ = some (.int .i64 n0) ∧ W.cell? ⟨w.heap.size, 1, none⟩ = some (.int .i64 n1) ∧ W.cell? ⟨w.heap.size, 2, none⟩ = some (.int .i64 n2) ∧ W.cell? ⟨w.heap.size, 38, none⟩ = some (.bool true)) := Lib.hid fun W h => by
    have h1 := h.1.tos; have h2 := h.1.id; have h3 := h.1.ttl; have h4 := h.1.al ho
    rw [e0] at h1; rw [e1] at h2; rw [e2] at h3; rw [hal] at h4
    exact ⟨h1, h2, h3, h4⟩
  have HK2 : Hid (∀ W, QB w W p → row? W w.heap.size 0 40 = some (ipC p) ∧ W.cell? ⟨w.heap.size, 3, none⟩ = some (.int .i64 n3) ∧ row? W w.heap.size 4 17 = some (addrC p.f6 p.fr) ∧ row? W w.heap.size 21 17 = some (addrC p.t6 p.to) ∧ W.cell? ⟨w.heap.size, 39, none⟩ = some (.string (Str p.bd)) ∧ QB w W p) := Lib.hid fun W h => by
    have h1 := h.1.pro
    rw [e3] at h1
    exact ⟨h.1.row ho, h1, h.1.rfr ho, h.1.rto ho, h.1.bd ho, h⟩
  have HRW := Lib.hid (fun W => (QB.made W p).1.row ho)
  clear hy hz hzy hyb hg hf ht hal
  generalize p.h6 = x0 at HP0 hwrt z0
  generalize putL y 2 = x1 at HP1 hwrt z1
  generalize putL 0 1 = x2 at HP2 hwrt z2
  generalize putL n3 1 = x3 at HP3 hwrt z3
  generalize opL6 p.al n2 = op at HO hwrt zo8
  have hbl' := hbl
  have g1 := run_cat (P := Try.prog) x0 x1 (by omega)
  have g2 := run_cat (P := Try.prog) (x0 ++ x1) x2 (by simp; omega)
  have g3 := run_cat (P := Try.prog) (x0 ++ (x1 ++ x2)) x3 (by simp; omega)
  have g4 := run_cat (P := Try.prog) (x0 ++ (x1 ++ (x2 ++ x3))) p.fr (by simp; omega)
  have g5 := run_cat (P := Try.prog) (x0 ++ (x1 ++ (x2 ++ (x3 ++ p.fr)))) p.to (by simp; omega)
  have g6 := run_cat (P := Try.prog) (x0 ++ (x1 ++ (x2 ++ (x3 ++ (p.fr ++ p.to))))) op (by simp; omega)
  have g7 := run_cat (P := Try.prog) (x0 ++ (x1 ++ (x2 ++ (x3 ++ (p.fr ++ (p.to ++ op)))))) p.bd (by simp; omega)
  simp only [List.append_assoc] at g2 g3 g4 g5 g6 g7
  rw [← hwrt] at g7
  generalize p.wrt6 = WR at g7 ⊢
  have hr := HRW.out w
  clear hwrt z0 z1 z2 z3 zf zt zo8 e0 e1 e2 e3 a0 a1 a2 a3 a4 a5 a6 a7 ho hbl hbl' hys HRW
  go_enter Try.func8, Try.ntmps8
  go_upto_region 1 with (fail)
  generalize w.alloc (.cells (ipC p).toArray 26) = W at HB hr ⊢
  go_upto_region 7 with (first
    | (go_at_call 9; (with_reducible refine (HG.out _).mono ?_); rintro x w1 ⟨rfl, hb1⟩; have H1 := Lib.hid (HB.out.keep hb1); clear hb1 hr; obtain ⟨c0, c1, c2, c38⟩ := HK1.out _ H1.out)
    | (go_at_call 18; (with_reducible refine (HP0.out _).mono ?_); rintro x w2 ⟨rfl, hb2⟩; have H2 := Lib.hid (H1.out.keep hb2); clear hb2 c0 c1 c2 c38))
  go_region_held3 (fun W => row? W w.heap.size 0 40 = some (ipC p) ∧ W.cell? ⟨w.heap.size, 3, none⟩ = some (.int .i64 n3) ∧ row? W w.heap.size 4 17 = some (addrC p.f6 p.fr) ∧ row? W w.heap.size 21 17 = some (addrC p.t6 p.to) ∧ W.cell? ⟨w.heap.size, 39, none⟩ = some (.string (Str p.bd)) ∧ QB w W p) (first | assumption | exact HK2.out _ H2.out | exact HK2.out _ (H2.out.drewN 1)) (first
    | (go_at_call 14; (with_reducible refine (HS.out _).mono ?_); rintro x w3 ⟨rfl, hb3⟩; have hk := HK2.out _ (QB.keep (And.right (And.right (And.right (And.right (And.right (by assumption)))))) hb3); clear hb3)
    | (go_at_call 18; (with_reducible refine (HP1.out _).mono ?_); rintro x w3 ⟨rfl, hb3⟩; have hk := HK2.out _ (QB.keep (And.right (And.right (And.right (And.right (And.right (by assumption)))))) hb3); clear hb3)
    | (go_at_call 18; (with_reducible refine (HP2.out _).mono ?_); rintro x w3 ⟨rfl, hb3⟩; have hk := HK2.out _ (QB.keep (And.right (And.right (And.right (And.right (And.right (by assumption)))))) hb3); clear hb3)
    | (go_at_call 18; (with_reducible refine (HP3.out _).mono ?_); rintro x w3 ⟨rfl, hb3⟩; have hk := HK2.out _ (QB.keep (And.right (And.right (And.right (And.right (And.right (by assumption)))))) hb3); clear hb3)
    | (go_at_call 19; (with_reducible refine (HBY1.out _).mono ?_); rintro x w3 ⟨rfl, hb3⟩; have hk := HK2.out _ (QB.keep (And.right (And.right (And.right (And.right (And.right (by assumption)))))) hb3); clear hb3)
    | (go_at_call 19; (with_reducible refine (HBY2.out _).mono ?_); rintro x w3 ⟨rfl, hb3⟩; have hk := HK2.out _ (QB.keep (And.right (And.right (And.right (And.right (And.right (by assumption)))))) hb3); clear hb3)
    | (go_at_call 20; (with_reducible refine (HO.out _).mono ?_); rintro x w3 ⟨rfl, hb3⟩; have hk := HK2.out _ (QB.keep (And.right (And.right (And.right (And.right (And.right (by assumption)))))) hb3); clear hb3))
  go_wp2_with fail
  go_ret2
  exact ⟨rfl, hk.2.2.2.2.2.2⟩

set_option maxRecDepth 100000 in
set_option maxHeartbeats 8000000 in
theorem write6_no (p : Ip) (ho : p.ok) (hal : p.al = false) (hg : p.good6 = true) (w : World) : Calls Try.prog 8 #[.agg (ipC p).toArray] w fun x w' => x = .returned (.tuple #[.string (Str p.wrt6), .int .i64 0]) ∧ Below w.heap.size w w' := by
  have HB := Lib.hid (QB.made w p)
  obtain ⟨hnum, hf, ht, hbl⟩ := Ip.good6_parts hg
  unfold Ip.nums6 at hnum
  rw [decide_eq_true_eq] at hnum
  obtain ⟨a0, a1, a2, a3, a4, a5, a6, a7⟩ := hnum
  obtain ⟨n0, e0⟩ := Int.eq_ofNat_of_zero_le a0
  obtain ⟨n1, e1⟩ := Int.eq_ofNat_of_zero_le a6
  obtain ⟨n2, e2⟩ := Int.eq_ofNat_of_zero_le (show 0 ≤ p.ttl by omega)
  obtain ⟨n3, e3⟩ := Int.eq_ofNat_of_zero_le a2
  have HG := Lib.hid (fun W => good6_any p ho (by omega) W)
  rw [hg] at HG
  obtain ⟨z, hz⟩ : ∃ z, z = p.sz6 := ⟨_, rfl⟩
  obtain ⟨y, hy⟩ : ∃ y, y = p.sz6 - 40 := ⟨_, rfl⟩
  have hzy : (z : Int) - 40 = (y : Int) := by rw [hz, hy]; unfold Ip.sz6; omega
  have hyb : y = (if p.al then 8 else 0) + p.bd.length := by rw [hy]; unfold Ip.sz6; omega
  have hys : y ≤ 1408 := by rw [hyb]; split <;> omega
  have HS := Lib.hid (fun W => size6_any p ho n2 e2 (by omega) (by omega) W)
  rw [← hz] at HS
  have hwz : IntKind.i64.wrap ((z : Int) - 40) = (y : Int) := by rw [hzy]; simp only [IntKind.wrap_i64]; omega
  have HO := Lib.hid (fun W => opts6_any p ho n2 e2 (by omega) W)
  have hw1 : IntKind.i64.wrap ((n0 : Int) * 1048576) = (n0 : Int) * 1048576 := by simp only [IntKind.wrap_i64]; omega
  have ho1 := or_vers n0 (by omega)
  have ho2 := or_flow n0 n1 (by omega) (by omega)
  have hfst := putL_first n0 n1 (by omega) (by omega)
  obtain ⟨M, hM⟩ : ∃ M, M = 1610612736 + n0 * 1048576 := ⟨_, rfl⟩
  obtain ⟨N, hN⟩ : ∃ N, N = M + n1 := ⟨_, rfl⟩
  rw [← hM] at ho1 ho2 hfst
  rw [← hN] at ho2 hfst
  have hH : putL N 4 = p.h6 := by
    rw [hfst]
    unfold Ip.h6
    rw [e0, e1]
    rfl
  have HP0 : Hid (∀ W, Calls Try.prog 18 #[.int .i64 (N : Int), .int .i64 4] W fun x w' => x = .returned (.string (Str (putL N 4))) ∧ Below W.heap.size W w') := Lib.hid fun W => put6_any N (by omega) 4 (by omega) W
  have HP1 : Hid (∀ W, Calls Try.prog 18 #[.int .i64 (y : Int), .int .i64 2] W fun x w' => x = .returned (.string (Str (putL y 2))) ∧ Below W.heap.size W w') := Lib.hid fun W => put6_any y (by omega) 2 (by omega) W
  have HP2 : Hid (∀ W, Calls Try.prog 18 #[.int .i64 (n2 : Int), .int .i64 1] W fun x w' => x = .returned (.string (Str (putL n2 1))) ∧ Below W.heap.size W w') := Lib.hid fun W => put6_any n2 (by omega) 1 (by omega) W
  have HP3 : Hid (∀ W, Calls Try.prog 18 #[.int .i64 (n3 : Int), .int .i64 1] W fun x w' => x = .returned (.string (Str (putL n3 1))) ∧ Below W.heap.size W w') := Lib.hid fun W => put6_any n3 (by omega) 1 (by omega) W
  have HBY1 : Hid (∀ W, Calls Try.prog 19 #[.agg (addrC p.f6 p.fr).toArray] W fun e w' => e = .returned (.string (Str p.fr)) ∧ Below W.heap.size W w') := Lib.hid fun W => by
    have := bytes_any p.f6 p.fr ho.1 W
    rw [hf] at this ⊢; exact this
  have HBY2 : Hid (∀ W, Calls Try.prog 19 #[.agg (addrC p.t6 p.to).toArray] W fun e w' => e = .returned (.string (Str p.to)) ∧ Below W.heap.size W w') := Lib.hid fun W => by
    have := bytes_any p.t6 p.to ho.2 W
    rw [ht] at this ⊢; exact this
  rw [hH] at HP0
  have hwrt : p.wrt6 = p.h6 ++ (putL y 2 ++ (putL n2 1 ++ (putL n3 1 ++ (p.fr ++ (p.to ++ (opL6 p.al n2 ++ p.bd)))))) := by
    unfold Ip.wrt6
    rw [hyb, hal, e2, e3]
    simp [opL6, putL, Nat.add_comm]
  have z0 := Ip.h6_length p; have z1 := putL_length y 2; have z2 := putL_length n2 1; have z3 := putL_length n3 1
  have zf := ho.1; have zt := ho.2
  have zo := opL6_length p.al n2
  have zo8 : (opL6 p.al n2).length ≤ 8 := by rw [zo]; split <;> omega
  clear zo hfst hM hN
  have HK1 : Hid (∀ W, QB w W p → W.cell? ⟨w.heap.size, 0, none⟩ = some (.int .i64 n0) ∧ W.cell? ⟨w.heap.size, 1, none⟩ = some (.int .i64 n1) ∧ W.cell? ⟨w.heap.size, 2, none⟩ = some (.int .i64 n2) ∧ W.cell? ⟨w.heap.size, 38, none⟩ = some (.bool false)) := Lib.hid fun W h => by
    have h1 := h.1.tos; have h2 := h.1.id; have h3 := h.1.ttl; have h4 := h.1.al ho
    rw [e0] at h1; rw [e1] at h2; rw [e2] at h3; rw [hal] at h4
    exact ⟨h1, h2, h3, h4⟩
  have HK2 : Hid (∀ W, QB w W p → row? W w.heap.size 0 40 = some (ipC p) ∧ W.cell? ⟨w.heap.size, 3, none⟩ = some (.int .i64 n3) ∧ row? W w.heap.size 4 17 = some (addrC p.f6 p.fr) ∧ row? W w.heap.size 21 17 = some (addrC p.t6 p.to) ∧ W.cell? ⟨w.heap.size, 39, none⟩ = some (.string (Str p.bd)) ∧ QB w W p) := Lib.hid fun W h => by
    have h1 := h.1.pro
    rw [e3] at h1
    exact ⟨h.1.row ho, h1, h.1.rfr ho, h.1.rto ho, h.1.bd ho, h⟩
  have HRW := Lib.hid (fun W => (QB.made W p).1.row ho)
  clear hy hz hzy hyb hg hf ht hal
  generalize p.h6 = x0 at HP0 hwrt z0
  generalize putL y 2 = x1 at HP1 hwrt z1
  generalize putL n2 1 = x2 at HP2 hwrt z2
  generalize putL n3 1 = x3 at HP3 hwrt z3
  generalize opL6 p.al n2 = op at HO hwrt zo8
  have hbl' := hbl
  have g1 := run_cat (P := Try.prog) x0 x1 (by omega)
  have g2 := run_cat (P := Try.prog) (x0 ++ x1) x2 (by simp; omega)
  have g3 := run_cat (P := Try.prog) (x0 ++ (x1 ++ x2)) x3 (by simp; omega)
  have g4 := run_cat (P := Try.prog) (x0 ++ (x1 ++ (x2 ++ x3))) p.fr (by simp; omega)
  have g5 := run_cat (P := Try.prog) (x0 ++ (x1 ++ (x2 ++ (x3 ++ p.fr)))) p.to (by simp; omega)
  have g6 := run_cat (P := Try.prog) (x0 ++ (x1 ++ (x2 ++ (x3 ++ (p.fr ++ p.to))))) op (by simp; omega)
  have g7 := run_cat (P := Try.prog) (x0 ++ (x1 ++ (x2 ++ (x3 ++ (p.fr ++ (p.to ++ op)))))) p.bd (by simp; omega)
  simp only [List.append_assoc] at g2 g3 g4 g5 g6 g7
  rw [← hwrt] at g7
  generalize p.wrt6 = WR at g7 ⊢
  have hr := HRW.out w
  clear hwrt z0 z1 z2 z3 zf zt zo8 e0 e1 e2 e3 a0 a1 a2 a3 a4 a5 a6 a7 ho hbl hbl' hys HRW
  go_enter Try.func8, Try.ntmps8
  go_upto_region 1 with (fail)
  generalize w.alloc (.cells (ipC p).toArray 26) = W at HB hr ⊢
  go_upto_region 7 with (first
    | (go_at_call 9; (with_reducible refine (HG.out _).mono ?_); rintro x w1 ⟨rfl, hb1⟩; have H1 := Lib.hid (HB.out.keep hb1); clear hb1 hr; obtain ⟨c0, c1, c2, c38⟩ := HK1.out _ H1.out)
    | (go_at_call 18; (with_reducible refine (HP0.out _).mono ?_); rintro x w2 ⟨rfl, hb2⟩; have H2 := Lib.hid (H1.out.keep hb2); clear hb2 c0 c1 c2 c38))
  go_region_held3 (fun W => row? W w.heap.size 0 40 = some (ipC p) ∧ W.cell? ⟨w.heap.size, 3, none⟩ = some (.int .i64 n3) ∧ row? W w.heap.size 4 17 = some (addrC p.f6 p.fr) ∧ row? W w.heap.size 21 17 = some (addrC p.t6 p.to) ∧ W.cell? ⟨w.heap.size, 39, none⟩ = some (.string (Str p.bd)) ∧ QB w W p) (first | assumption | exact HK2.out _ H2.out | exact HK2.out _ (H2.out.drewN 1)) (first
    | (go_at_call 14; (with_reducible refine (HS.out _).mono ?_); rintro x w3 ⟨rfl, hb3⟩; have hk := HK2.out _ (QB.keep (And.right (And.right (And.right (And.right (And.right (by assumption)))))) hb3); clear hb3)
    | (go_at_call 18; (with_reducible refine (HP1.out _).mono ?_); rintro x w3 ⟨rfl, hb3⟩; have hk := HK2.out _ (QB.keep (And.right (And.right (And.right (And.right (And.right (by assumption)))))) hb3); clear hb3)
    | (go_at_call 18; (with_reducible refine (HP2.out _).mono ?_); rintro x w3 ⟨rfl, hb3⟩; have hk := HK2.out _ (QB.keep (And.right (And.right (And.right (And.right (And.right (by assumption)))))) hb3); clear hb3)
    | (go_at_call 18; (with_reducible refine (HP3.out _).mono ?_); rintro x w3 ⟨rfl, hb3⟩; have hk := HK2.out _ (QB.keep (And.right (And.right (And.right (And.right (And.right (by assumption)))))) hb3); clear hb3)
    | (go_at_call 19; (with_reducible refine (HBY1.out _).mono ?_); rintro x w3 ⟨rfl, hb3⟩; have hk := HK2.out _ (QB.keep (And.right (And.right (And.right (And.right (And.right (by assumption)))))) hb3); clear hb3)
    | (go_at_call 19; (with_reducible refine (HBY2.out _).mono ?_); rintro x w3 ⟨rfl, hb3⟩; have hk := HK2.out _ (QB.keep (And.right (And.right (And.right (And.right (And.right (by assumption)))))) hb3); clear hb3)
    | (go_at_call 20; (with_reducible refine (HO.out _).mono ?_); rintro x w3 ⟨rfl, hb3⟩; have hk := HK2.out _ (QB.keep (And.right (And.right (And.right (And.right (And.right (by assumption)))))) hb3); clear hb3))
  go_wp2_with fail
  go_ret2
  exact ⟨rfl, hk.2.2.2.2.2.2⟩

theorem write6_good (p : Ip) (ho : p.ok) (hg : p.good6 = true) (w : World) : Calls Try.prog 8 #[.agg (ipC p).toArray] w fun x w' => x = .returned (.tuple #[.string (Str p.wrt6), .int .i64 0]) ∧ Below w.heap.size w w' := by
  cases hal : p.al with
  | true => exact write6_al p ho hal hg w
  | false => exact write6_no p ho hal hg w
end Go.Proofs.Ytkmnnkklbgnfpaa
