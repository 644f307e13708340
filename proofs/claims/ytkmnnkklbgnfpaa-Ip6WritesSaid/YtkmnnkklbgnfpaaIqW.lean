/-
  The document's own bytes of a packet of IPv6.
-/
import Derived.Test.YtkmnnkklbgnfpaaIqA
namespace Go.Proofs.Ytkmnnkklbgnfpaa
open Go.RowKit
set_option linter.unusedVariables false
attribute [local go_sem ↓] bld_iq ld_iq st_iq ld_addr st_addr
attribute [local go_sem] ldr_iq str_iq ldr_addr str_addr

set_option maxRecDepth 100000 in
set_option maxHeartbeats 4000000 in
theorem rwrite6_al (p : Ip) (ho : p.ok) (hal : p.al = true) (hn : p.nums6 = true) (hf : p.f6 = true) (ht : p.t6 = true) (hl : p.bd.length ≤ 50000) (w : World) : Calls Try.prog 13 #[.agg (ipC p).toArray] w fun x w' => x = .returned (.string (Str p.wrt6)) ∧ Below w.heap.size w w' := by
  have HB := Lib.hid (QB.made w p)
  unfold Ip.nums6 at hn
  rw [decide_eq_true_eq] at hn
  obtain ⟨a0, a1, a2, a3, a4, a5, a6, a7⟩ := hn
  obtain ⟨n0, e0⟩ := Int.eq_ofNat_of_zero_le a0
  obtain ⟨n1, e1⟩ := Int.eq_ofNat_of_zero_le a6
  obtain ⟨n2, e2⟩ := Int.eq_ofNat_of_zero_le (show 0 ≤ p.ttl by omega)
  obtain ⟨n3, e3⟩ := Int.eq_ofNat_of_zero_le a2
  have hsz := Str_size p.bd
  obtain ⟨q, hq⟩ : ∃ q, q = n0 / 16 := ⟨_, rfl⟩
  obtain ⟨r, hr⟩ : ∃ r, r = n0 % 16 := ⟨_, rfl⟩
  obtain ⟨u, hu⟩ : ∃ u, u = n1 / 65536 := ⟨_, rfl⟩
  obtain ⟨v, hv⟩ : ∃ v, v = n1 % 65536 := ⟨_, rfl⟩
  have t1 : (n0 : Int).tdiv 16 = (q : Int) := by rw [hq]; rfl
  have t2 : (n0 : Int) / 16 = (q : Int) := by rw [hq]; rfl
  have t3 : (n0 : Int).tmod 16 = (r : Int) := by rw [hr]; rfl
  have t4 : (n0 : Int) % 16 = (r : Int) := by rw [hr]; rfl
  have t5 : (n1 : Int).tdiv 65536 = (u : Int) := by rw [hu]; rfl
  have t6 : (n1 : Int) / 65536 = (u : Int) := by rw [hu]; rfl
  have t7 : (n1 : Int).tmod 65536 = (v : Int) := by rw [hv]; rfl
  have t8 : (n1 : Int) % 65536 = (v : Int) := by rw [hv]; rfl
  have y1 : IntKind.i64.wrap (q : Int) = (q : Int) := by simp only [IntKind.wrap_i64]; omega
  have y2 : IntKind.i64.wrap (96 + (q : Int)) = 96 + (q : Int) := by simp only [IntKind.wrap_i64]; omega
  have y3 : IntKind.i64.wrap (r : Int) = (r : Int) := by simp only [IntKind.wrap_i64]; omega
  have y4 : IntKind.i64.wrap ((r : Int) * 16) = (r : Int) * 16 := by simp only [IntKind.wrap_i64]; omega
  have y5 : IntKind.i64.wrap (u : Int) = (u : Int) := by simp only [IntKind.wrap_i64]; omega
  have y6 : IntKind.i64.wrap ((r : Int) * 16 + (u : Int)) = (r : Int) * 16 + (u : Int) := by simp only [IntKind.wrap_i64]; omega
  have y7 : IntKind.i64.wrap (v : Int) = (v : Int) := by simp only [IntKind.wrap_i64]; omega
  have y8 : IntKind.i64.wrap ((p.bd.length : Int) + 8) = (p.bd.length : Int) + 8 := by simp only [IntKind.wrap_i64]; omega
  have HM0 : Hid (∀ W, Calls Try.prog 24 #[.int .i64 (96 + (q : Int)), .int .i64 1] W fun x w' => x = .returned (.string (Str (putL (96 + q) 1))) ∧ Below W.heap.size W w') := Lib.hid fun W => by
    have := rnum6_any (96 + q) (by omega) 1 (by omega) W
    rw [show ((96 + q : Nat) : Int) = 96 + (q : Int) by omega] at this; exact this
  have HM1 : Hid (∀ W, Calls Try.prog 24 #[.int .i64 ((r : Int) * 16 + (u : Int)), .int .i64 1] W fun x w' => x = .returned (.string (Str (putL (r * 16 + u) 1))) ∧ Below W.heap.size W w') := Lib.hid fun W => by
    have := rnum6_any (r * 16 + u) (by omega) 1 (by omega) W
    rw [show ((r * 16 + u : Nat) : Int) = (r : Int) * 16 + (u : Int) by omega] at this; exact this
  have HM2 : Hid (∀ W, Calls Try.prog 24 #[.int .i64 (v : Int), .int .i64 2] W fun x w' => x = .returned (.string (Str (putL v 2))) ∧ Below W.heap.size W w') := Lib.hid fun W => rnum6_any v (by omega) 2 (by omega) W
  have HM3 : Hid (∀ W, Calls Try.prog 24 #[.int .i64 ((p.bd.length : Int) + 8), .int .i64 2] W fun x w' => x = .returned (.string (Str (putL (p.bd.length + 8) 2))) ∧ Below W.heap.size W w') := Lib.hid fun W => by
    have := rnum6_any (p.bd.length + 8) (by omega) 2 (by omega) W
    rw [show ((p.bd.length + 8 : Nat) : Int) = (p.bd.length : Int) + 8 by omega] at this; exact this
  have HM4 : Hid (∀ W, Calls Try.prog 24 #[.int .i64 (n3 : Int), .int .i64 1] W fun x w' => x = .returned (.string (Str (putL n3 1))) ∧ Below W.heap.size W w') := Lib.hid fun W => rnum6_any n3 (by omega) 1 (by omega) W
  have HM5 : Hid (∀ W, Calls Try.prog 24 #[.int .i64 (n2 : Int), .int .i64 1] W fun x w' => x = .returned (.string (Str (putL n2 1))) ∧ Below W.heap.size W w') := Lib.hid fun W => rnum6_any n2 (by omega) 1 (by omega) W
  have hH : p.h6 = putL (96 + q) 1 ++ (putL (r * 16 + u) 1 ++ putL v 2) := by
    unfold Ip.h6
    rw [e0, e1, hq, hr, hu, hv]
    rfl
  have hwrt : p.wrt6 = p.h6 ++ (putL (p.bd.length + 8) 2 ++ ([0] ++ (putL n3 1 ++ ((p.fr ++ p.to) ++ (putL n2 1 ++ ([0, 5, 2, 0, 0, 1, 0] ++ p.bd)))))) := by
    unfold Ip.wrt6
    rw [hal, if_pos rfl, e2, e3]
    simp
  have HBY1 : Hid (∀ W, Calls Try.prog 25 #[.agg (addrC p.f6 p.fr).toArray] W fun e w' => e = .returned (.string (Str p.fr)) ∧ Below W.heap.size W w') := Lib.hid fun W => by
    have := rbytes_any p.f6 p.fr ho.1 W
    rw [hf] at this ⊢; exact this
  have HBY2 : Hid (∀ W, Calls Try.prog 25 #[.agg (addrC p.t6 p.to).toArray] W fun e w' => e = .returned (.string (Str p.to)) ∧ Below W.heap.size W w') := Lib.hid fun W => by
    have := rbytes_any p.t6 p.to ho.2 W
    rw [ht] at this ⊢; exact this
  have HK1 : Hid (∀ W, QB w W p → W.cell? ⟨w.heap.size, 0, none⟩ = some (.int .i64 n0) ∧ W.cell? ⟨w.heap.size, 1, none⟩ = some (.int .i64 n1) ∧ QB w W p) := Lib.hid fun W h => by
    have h1 := h.1.tos; have h2 := h.1.id
    rw [e0] at h1; rw [e1] at h2
    exact ⟨h1, h2, h⟩
  have HK2 : Hid (∀ W, QB w W p → row? W w.heap.size 4 17 = some (addrC p.f6 p.fr) ∧ row? W w.heap.size 21 17 = some (addrC p.t6 p.to) ∧ QB w W p) := Lib.hid fun W h => ⟨h.1.rfr ho, h.1.rto ho, h⟩
  have HK3 : Hid (∀ W, QB w W p → W.cell? ⟨w.heap.size, 39, none⟩ = some (.string (Str p.bd)) ∧ W.cell? ⟨w.heap.size, 2, none⟩ = some (.int .i64 n2) ∧ W.cell? ⟨w.heap.size, 3, none⟩ = some (.int .i64 n3) ∧ QB w W p) := Lib.hid fun W h => by
    have h1 := h.1.ttl; have h2 := h.1.pro
    rw [e2] at h1; rw [e3] at h2
    exact ⟨h.1.bd ho, h1, h2, h⟩
  have HAL : Hid (∀ W, QB w W p → W.cell? ⟨w.heap.size, 38, none⟩ = some (.bool true)) := Lib.hid fun W h => by rw [← hal]; exact h.1.al ho
  have z0 := putL_length (96 + q) 1; have z1 := putL_length (r * 16 + u) 1; have z2 := putL_length v 2; have z3 := putL_length (p.bd.length + 8) 2; have z4 := putL_length n3 1; have z5 := putL_length n2 1
  have zf := ho.1; have zt := ho.2
  have zh := Ip.h6_length p
  generalize putL (96 + q) 1 = x0 at HM0 hH z0
  generalize putL (r * 16 + u) 1 = x1 at HM1 hH z1
  generalize putL v 2 = x2 at HM2 hH z2
  generalize putL (p.bd.length + 8) 2 = x3 at HM3 hwrt z3
  generalize putL n3 1 = x4 at HM4 hwrt z4
  generalize putL n2 1 = x5 at HM5 hwrt z5
  have b1 := run_cat (P := Try.prog) p.fr p.to (by omega)
  have zab : (p.fr ++ p.to).length = 32 := by simp; omega
  generalize p.fr ++ p.to = AB at b1 hwrt zab
  generalize p.wrt6 = WR at hwrt ⊢
  have c1 := run_cat (P := Try.prog) x0 x1 (by omega)
  have c2 := run_cat (P := Try.prog) (x0 ++ x1) x2 (by simp; omega)
  simp only [List.append_assoc] at c2
  rw [← hH] at c2
  generalize p.h6 = H at c2 hwrt zh
  have g1 := run_cat (P := Try.prog) H x3 (by omega)
  obtain ⟨M, hM⟩ : ∃ M : List UInt8, M = [0, 5, 2, 0, 0, 1, 0] := ⟨_, rfl⟩
  rw [← hM] at hwrt
  obtain ⟨O, hO⟩ : ∃ O : List UInt8, O = [0] := ⟨_, rfl⟩
  rw [← hO] at hwrt
  have g2 : ∀ w, (Op.stringOp .add (Str (H ++ x3)) ⟨#[0]⟩).run Try.prog w = .ok (.string (Str (H ++ (x3 ++ O)))) w := fun w => by
    have := run_cat (P := Try.prog) (H ++ x3) [0] (by simp; omega) w
    rw [List.append_assoc] at this
    rw [hO]; exact this
  have zO : O.length = 1 := by rw [hO]; rfl
  have g3 := run_cat (P := Try.prog) (H ++ (x3 ++ O)) x4 (by simp; omega)
  have g4 := run_cat (P := Try.prog) (H ++ (x3 ++ (O ++ x4))) AB (by simp; omega)
  have g5 := run_cat (P := Try.prog) (H ++ (x3 ++ (O ++ (x4 ++ AB)))) x5 (by simp; omega)
  have g6 : ∀ w, (Op.stringOp .add (Str (H ++ (x3 ++ (O ++ (x4 ++ (AB ++ x5)))))) ⟨#[0, 5, 2, 0, 0, 1, 0]⟩).run Try.prog w = .ok (.string (Str (H ++ (x3 ++ (O ++ (x4 ++ (AB ++ (x5 ++ M)))))))) w := fun w => by
    rw [hM]
    have := run_cat (P := Try.prog) (H ++ (x3 ++ (O ++ (x4 ++ (AB ++ x5))))) [0, 5, 2, 0, 0, 1, 0] (by simp; omega) w
    simp only [List.append_assoc] at this; exact this
  have zM : M.length = 7 := by rw [hM]; rfl
  have g7 := run_cat (P := Try.prog) (H ++ (x3 ++ (O ++ (x4 ++ (AB ++ (x5 ++ M)))))) p.bd (by simp; omega)
  simp only [List.append_assoc] at g3 g4 g5 g7
  rw [← hwrt] at g7
  clear hO hM zO zM
  clear hH hwrt z0 z1 z2 z3 z4 z5 zf zt zh zab e0 e1 e2 e3 a0 a1 a2 a3 a4 a5 a6 a7 ho hf ht hal hq hr hu hv
  go_enter Try.func13, Try.ntmps13
  go_upto_region 1 with (fail)
  generalize w.alloc (.cells (ipC p).toArray 26) = W at HB ⊢
  go_region_held3 (fun W => W.cell? ⟨w.heap.size, 0, none⟩ = some (.int .i64 n0) ∧ W.cell? ⟨w.heap.size, 1, none⟩ = some (.int .i64 n1) ∧ QB w W p) (first | assumption | exact HK1.out _ HB.out | exact HK1.out _ (HB.out.drewN 1)) (first
    | (go_at_call 24; (with_reducible refine (HM0.out _).mono ?_); rintro x w3 ⟨rfl, hb3⟩; have hk := HK1.out _ (QB.keep (And.right (And.right (by assumption))) hb3); clear hb3)
    | (go_at_call 24; (with_reducible refine (HM1.out _).mono ?_); rintro x w3 ⟨rfl, hb3⟩; have hk := HK1.out _ (QB.keep (And.right (And.right (by assumption))) hb3); clear hb3)
    | (go_at_call 24; (with_reducible refine (HM2.out _).mono ?_); rintro x w3 ⟨rfl, hb3⟩; have hk := HK1.out _ (QB.keep (And.right (And.right (by assumption))) hb3); clear hb3))
  have HB1 := Lib.hid hk.2.2
  clear hk t1 t2 t3 t4 t5 t6 t7 t8 y1 y2 y3 y4 y5 y6 y7
  go_upto_region 2 with (fail)
  go_region_held3 (fun W => row? W w.heap.size 4 17 = some (addrC p.f6 p.fr) ∧ row? W w.heap.size 21 17 = some (addrC p.t6 p.to) ∧ QB w W p) (first | assumption | exact HK2.out _ HB1.out | exact HK2.out _ (HB1.out.drewN 1)) (first
    | (go_at_call 25; (with_reducible refine (HBY1.out _).mono ?_); rintro x w3 ⟨rfl, hb3⟩; have hk := HK2.out _ (QB.keep (And.right (And.right (by assumption))) hb3); clear hb3)
    | (go_at_call 25; (with_reducible refine (HBY2.out _).mono ?_); rintro x w3 ⟨rfl, hb3⟩; have hk := HK2.out _ (QB.keep (And.right (And.right (by assumption))) hb3); clear hb3))
  have HB2 := Lib.hid hk.2.2
  clear hk
  have hal := HAL.out _ HB2.out
  go_upto_region 4 with (fail)
  clear hal
  go_region_held3 (fun W => W.cell? ⟨w.heap.size, 39, none⟩ = some (.string (Str p.bd)) ∧ W.cell? ⟨w.heap.size, 2, none⟩ = some (.int .i64 n2) ∧ W.cell? ⟨w.heap.size, 3, none⟩ = some (.int .i64 n3) ∧ QB w W p) (first | assumption | exact HK3.out _ HB2.out | exact HK3.out _ (HB2.out.drewN 1)) (first
    | (go_at_call 24; (with_reducible refine (HM3.out _).mono ?_); rintro x w3 ⟨rfl, hb3⟩; have hk := HK3.out _ (QB.keep (And.right (And.right (And.right (by assumption)))) hb3); clear hb3)
    | (go_at_call 24; (with_reducible refine (HM4.out _).mono ?_); rintro x w3 ⟨rfl, hb3⟩; have hk := HK3.out _ (QB.keep (And.right (And.right (And.right (by assumption)))) hb3); clear hb3)
    | (go_at_call 24; (with_reducible refine (HM5.out _).mono ?_); rintro x w3 ⟨rfl, hb3⟩; have hk := HK3.out _ (QB.keep (And.right (And.right (And.right (by assumption)))) hb3); clear hb3))
  go_wp2_with fail
  go_ret
  exact ⟨rfl, hk.2.2.2.2⟩

set_option maxRecDepth 100000 in
set_option maxHeartbeats 4000000 in
theorem rwrite6_no (p : Ip) (ho : p.ok) (hal : p.al = false) (hn : p.nums6 = true) (hf : p.f6 = true) (ht : p.t6 = true) (hl : p.bd.length ≤ 50000) (w : World) : Calls Try.prog 13 #[.agg (ipC p).toArray] w fun x w' => x = .returned (.string (Str p.wrt6)) ∧ Below w.heap.size w w' := by
  have HB := Lib.hid (QB.made w p)
  unfold Ip.nums6 at hn
  rw [decide_eq_true_eq] at hn
  obtain ⟨a0, a1, a2, a3, a4, a5, a6, a7⟩ := hn
  obtain ⟨n0, e0⟩ := Int.eq_ofNat_of_zero_le a0
  obtain ⟨n1, e1⟩ := Int.eq_ofNat_of_zero_le a6
  obtain ⟨n2, e2⟩ := Int.eq_ofNat_of_zero_le (show 0 ≤ p.ttl by omega)
  obtain ⟨n3, e3⟩ := Int.eq_ofNat_of_zero_le a2
  have hsz := Str_size p.bd
  obtain ⟨q, hq⟩ : ∃ q, q = n0 / 16 := ⟨_, rfl⟩
  obtain ⟨r, hr⟩ : ∃ r, r = n0 % 16 := ⟨_, rfl⟩
  obtain ⟨u, hu⟩ : ∃ u, u = n1 / 65536 := ⟨_, rfl⟩
  obtain ⟨v, hv⟩ : ∃ v, v = n1 % 65536 := ⟨_, rfl⟩
  have t1 : (n0 : Int).tdiv 16 = (q : Int) := by rw [hq]; rfl
  have t2 : (n0 : Int) / 16 = (q : Int) := by rw [hq]; rfl
  have t3 : (n0 : Int).tmod 16 = (r : Int) := by rw [hr]; rfl
  have t4 : (n0 : Int) % 16 = (r : Int) := by rw [hr]; rfl
  have t5 : (n1 : Int).tdiv 65536 = (u : Int) := by rw [hu]; rfl
  have t6 : (n1 : Int) / 65536 = (u : Int) := by rw [hu]; rfl
  have t7 : (n1 : Int).tmod 65536 = (v : Int) := by rw [hv]; rfl
  have t8 : (n1 : Int) % 65536 = (v : Int) := by rw [hv]; rfl
  have y1 : IntKind.i64.wrap (q : Int) = (q : Int) := by simp only [IntKind.wrap_i64]; omega
  have y2 : IntKind.i64.wrap (96 + (q : Int)) = 96 + (q : Int) := by simp only [IntKind.wrap_i64]; omega
  have y3 : IntKind.i64.wrap (r : Int) = (r : Int) := by simp only [IntKind.wrap_i64]; omega
  have y4 : IntKind.i64.wrap ((r : Int) * 16) = (r : Int) * 16 := by simp only [IntKind.wrap_i64]; omega
  have y5 : IntKind.i64.wrap (u : Int) = (u : Int) := by simp only [IntKind.wrap_i64]; omega
  have y6 : IntKind.i64.wrap ((r : Int) * 16 + (u : Int)) = (r : Int) * 16 + (u : Int) := by simp only [IntKind.wrap_i64]; omega
  have y7 : IntKind.i64.wrap (v : Int) = (v : Int) := by simp only [IntKind.wrap_i64]; omega
  have y8 : IntKind.i64.wrap ((p.bd.length : Int) + 8) = (p.bd.length : Int) + 8 := by simp only [IntKind.wrap_i64]; omega
  have HM0 : Hid (∀ W, Calls Try.prog 24 #[.int .i64 (96 + (q : Int)), .int .i64 1] W fun x w' => x = .returned (.string (Str (putL (96 + q) 1))) ∧ Below W.heap.size W w') := Lib.hid fun W => by
    have := rnum6_any (96 + q) (by omega) 1 (by omega) W
    rw [show ((96 + q : Nat) : Int) = 96 + (q : Int) by omega] at this; exact this
  have HM1 : Hid (∀ W, Calls Try.prog 24 #[.int .i64 ((r : Int) * 16 + (u : Int)), .int .i64 1] W fun x w' => x = .returned (.string (Str (putL (r * 16 + u) 1))) ∧ Below W.heap.size W w') := Lib.hid fun W => by
    have := rnum6_any (r * 16 + u) (by omega) 1 (by omega) W
    rw [show ((r * 16 + u : Nat) : Int) = (r : Int) * 16 + (u : Int) by omega] at this; exact this
  have HM2 : Hid (∀ W, Calls Try.prog 24 #[.int .i64 (v : Int), .int .i64 2] W fun x w' => x = .returned (.string (Str (putL v 2))) ∧ Below W.heap.size W w') := Lib.hid fun W => rnum6_any v (by omega) 2 (by omega) W
  have HM3 : Hid (∀ W, Calls Try.prog 24 #[.int .i64 (p.bd.length : Int), .int .i64 2] W fun x w' => x = .returned (.string (Str (putL p.bd.length 2))) ∧ Below W.heap.size W w') := Lib.hid fun W => rnum6_any p.bd.length (by omega) 2 (by omega) W
  have HM4 : Hid (∀ W, Calls Try.prog 24 #[.int .i64 (n3 : Int), .int .i64 1] W fun x w' => x = .returned (.string (Str (putL n3 1))) ∧ Below W.heap.size W w') := Lib.hid fun W => rnum6_any n3 (by omega) 1 (by omega) W
  have HM5 : Hid (∀ W, Calls Try.prog 24 #[.int .i64 (n2 : Int), .int .i64 1] W fun x w' => x = .returned (.string (Str (putL n2 1))) ∧ Below W.heap.size W w') := Lib.hid fun W => rnum6_any n2 (by omega) 1 (by omega) W
  have hH : p.h6 = putL (96 + q) 1 ++ (putL (r * 16 + u) 1 ++ putL v 2) := by
    unfold Ip.h6
    rw [e0, e1, hq, hr, hu, hv]
    rfl
  have hwrt : p.wrt6 = p.h6 ++ (putL p.bd.length 2 ++ (putL n2 1 ++ (putL n3 1 ++ ((p.fr ++ p.to) ++ p.bd)))) := by
    unfold Ip.wrt6
    rw [hal, if_neg (by simp), e2, e3]
    simp
  have HBY1 : Hid (∀ W, Calls Try.prog 25 #[.agg (addrC p.f6 p.fr).toArray] W fun e w' => e = .returned (.string (Str p.fr)) ∧ Below W.heap.size W w') := Lib.hid fun W => by
    have := rbytes_any p.f6 p.fr ho.1 W
    rw [hf] at this ⊢; exact this
  have HBY2 : Hid (∀ W, Calls Try.prog 25 #[.agg (addrC p.t6 p.to).toArray] W fun e w' => e = .returned (.string (Str p.to)) ∧ Below W.heap.size W w') := Lib.hid fun W => by
    have := rbytes_any p.t6 p.to ho.2 W
    rw [ht] at this ⊢; exact this
  have HK1 : Hid (∀ W, QB w W p → W.cell? ⟨w.heap.size, 0, none⟩ = some (.int .i64 n0) ∧ W.cell? ⟨w.heap.size, 1, none⟩ = some (.int .i64 n1) ∧ QB w W p) := Lib.hid fun W h => by
    have h1 := h.1.tos; have h2 := h.1.id
    rw [e0] at h1; rw [e1] at h2
    exact ⟨h1, h2, h⟩
  have HK2 : Hid (∀ W, QB w W p → row? W w.heap.size 4 17 = some (addrC p.f6 p.fr) ∧ row? W w.heap.size 21 17 = some (addrC p.t6 p.to) ∧ QB w W p) := Lib.hid fun W h => ⟨h.1.rfr ho, h.1.rto ho, h⟩
  have HK3 : Hid (∀ W, QB w W p → W.cell? ⟨w.heap.size, 39, none⟩ = some (.string (Str p.bd)) ∧ W.cell? ⟨w.heap.size, 2, none⟩ = some (.int .i64 n2) ∧ W.cell? ⟨w.heap.size, 3, none⟩ = some (.int .i64 n3) ∧ QB w W p) := Lib.hid fun W h => by
    have h1 := h.1.ttl; have h2 := h.1.pro
    rw [e2] at h1; rw [e3] at h2
    exact ⟨h.1.bd ho, h1, h2, h⟩
  have HAL : Hid (∀ W, QB w W p → W.cell? ⟨w.heap.size, 38, none⟩ = some (.bool false)) := Lib.hid fun W h => by rw [← hal]; exact h.1.al ho
  have z0 := putL_length (96 + q) 1; have z1 := putL_length (r * 16 + u) 1; have z2 := putL_length v 2; have z3 := putL_length p.bd.length 2; have z4 := putL_length n3 1; have z5 := putL_length n2 1
  have zf := ho.1; have zt := ho.2
  have zh := Ip.h6_length p
  generalize putL (96 + q) 1 = x0 at HM0 hH z0
  generalize putL (r * 16 + u) 1 = x1 at HM1 hH z1
  generalize putL v 2 = x2 at HM2 hH z2
  generalize putL p.bd.length 2 = x3 at HM3 hwrt z3
  generalize putL n3 1 = x4 at HM4 hwrt z4
  generalize putL n2 1 = x5 at HM5 hwrt z5
  have b1 := run_cat (P := Try.prog) p.fr p.to (by omega)
  have zab : (p.fr ++ p.to).length = 32 := by simp; omega
  generalize p.fr ++ p.to = AB at b1 hwrt zab
  generalize p.wrt6 = WR at hwrt ⊢
  have c1 := run_cat (P := Try.prog) x0 x1 (by omega)
  have c2 := run_cat (P := Try.prog) (x0 ++ x1) x2 (by simp; omega)
  simp only [List.append_assoc] at c2
  rw [← hH] at c2
  generalize p.h6 = H at c2 hwrt zh
  have g1 := run_cat (P := Try.prog) H x3 (by omega)
  have g2 := run_cat (P := Try.prog) (H ++ x3) x5 (by simp; omega)
  have g3 := run_cat (P := Try.prog) (H ++ (x3 ++ x5)) x4 (by simp; omega)
  have g4 := run_cat (P := Try.prog) (H ++ (x3 ++ (x5 ++ x4))) AB (by simp; omega)
  have g5 := run_cat (P := Try.prog) (H ++ (x3 ++ (x5 ++ (x4 ++ AB)))) p.bd (by simp; omega)
  simp only [List.append_assoc] at g2 g3 g4 g5
  rw [← hwrt] at g5
  clear hH hwrt z0 z1 z2 z3 z4 z5 zf zt zh zab e0 e1 e2 e3 a0 a1 a2 a3 a4 a5 a6 a7 ho hf ht hal hq hr hu hv
  go_enter Try.func13, Try.ntmps13
  go_upto_region 1 with (fail)
  generalize w.alloc (.cells (ipC p).toArray 26) = W at HB ⊢
  go_region_held3 (fun W => W.cell? ⟨w.heap.size, 0, none⟩ = some (.int .i64 n0) ∧ W.cell? ⟨w.heap.size, 1, none⟩ = some (.int .i64 n1) ∧ QB w W p) (first | assumption | exact HK1.out _ HB.out | exact HK1.out _ (HB.out.drewN 1)) (first
    | (go_at_call 24; (with_reducible refine (HM0.out _).mono ?_); rintro x w3 ⟨rfl, hb3⟩; have hk := HK1.out _ (QB.keep (And.right (And.right (by assumption))) hb3); clear hb3)
    | (go_at_call 24; (with_reducible refine (HM1.out _).mono ?_); rintro x w3 ⟨rfl, hb3⟩; have hk := HK1.out _ (QB.keep (And.right (And.right (by assumption))) hb3); clear hb3)
    | (go_at_call 24; (with_reducible refine (HM2.out _).mono ?_); rintro x w3 ⟨rfl, hb3⟩; have hk := HK1.out _ (QB.keep (And.right (And.right (by assumption))) hb3); clear hb3))
  have HB1 := Lib.hid hk.2.2
  clear hk t1 t2 t3 t4 t5 t6 t7 t8 y1 y2 y3 y4 y5 y6 y7
  go_upto_region 2 with (fail)
  go_region_held3 (fun W => row? W w.heap.size 4 17 = some (addrC p.f6 p.fr) ∧ row? W w.heap.size 21 17 = some (addrC p.t6 p.to) ∧ QB w W p) (first | assumption | exact HK2.out _ HB1.out | exact HK2.out _ (HB1.out.drewN 1)) (first
    | (go_at_call 25; (with_reducible refine (HBY1.out _).mono ?_); rintro x w3 ⟨rfl, hb3⟩; have hk := HK2.out _ (QB.keep (And.right (And.right (by assumption))) hb3); clear hb3)
    | (go_at_call 25; (with_reducible refine (HBY2.out _).mono ?_); rintro x w3 ⟨rfl, hb3⟩; have hk := HK2.out _ (QB.keep (And.right (And.right (by assumption))) hb3); clear hb3))
  have HB2 := Lib.hid hk.2.2
  clear hk
  have hal := HAL.out _ HB2.out
  go_upto_region 5 with (fail)
  clear hal
  go_region_held3 (fun W => W.cell? ⟨w.heap.size, 39, none⟩ = some (.string (Str p.bd)) ∧ W.cell? ⟨w.heap.size, 2, none⟩ = some (.int .i64 n2) ∧ W.cell? ⟨w.heap.size, 3, none⟩ = some (.int .i64 n3) ∧ QB w W p) (first | assumption | exact HK3.out _ HB2.out | exact HK3.out _ (HB2.out.drewN 1)) (first
    | (go_at_call 24; (with_reducible refine (HM3.out _).mono ?_); rintro x w3 ⟨rfl, hb3⟩; have hk := HK3.out _ (QB.keep (And.right (And.right (And.right (by assumption)))) hb3); clear hb3)
    | (go_at_call 24; (with_reducible refine (HM5.out _).mono ?_); rintro x w3 ⟨rfl, hb3⟩; have hk := HK3.out _ (QB.keep (And.right (And.right (And.right (by assumption)))) hb3); clear hb3)
    | (go_at_call 24; (with_reducible refine (HM4.out _).mono ?_); rintro x w3 ⟨rfl, hb3⟩; have hk := HK3.out _ (QB.keep (And.right (And.right (And.right (by assumption)))) hb3); clear hb3))
  go_wp2_with fail
  go_ret
  exact ⟨rfl, hk.2.2.2.2⟩

theorem rwrite6_any (p : Ip) (ho : p.ok) (hn : p.nums6 = true) (hf : p.f6 = true) (ht : p.t6 = true) (hl : p.bd.length ≤ 50000) (w : World) : Calls Try.prog 13 #[.agg (ipC p).toArray] w fun x w' => x = .returned (.string (Str p.wrt6)) ∧ Below w.heap.size w w' := by
  cases hal : p.al with
  | true => exact rwrite6_al p ho hal hn hf ht hl w
  | false => exact rwrite6_no p ho hal hn hf ht hl w
end Go.Proofs.Ytkmnnkklbgnfpaa
