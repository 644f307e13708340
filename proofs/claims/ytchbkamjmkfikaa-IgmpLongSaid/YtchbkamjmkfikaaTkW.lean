/-
  The document's own Write of layer 8: numbers as bytes, and talks of the elder versions.
-/
import Derived.Test.YtchbkamjmkfikaaMg16
import Derived.Test.YtchbkamjmkfikaaMg11
import Derived.Deep.RegionHeld3
import Derived.Deep.Cut
import Derived.BigQuiet
namespace Go.Proofs.Ytchbkamjmkfikaa
open Go.RowKit
set_option linter.unusedVariables false
set_option linter.unusedSimpArgs false
attribute [local go_sem ↓] ld_addr st_addr bld_addr ld_rec st_rec
attribute [local go_sem] ldr_addr str_addr ldr_rec str_rec

theorem rnum8_any (n : Nat) (hn : n ≤ 9223372036854775807) (wide : Nat) (hw : wide ≤ 8) (w : World) : Calls Try.prog 45 #[.int .i64 n, .int .i64 wide] w fun x w' => x = .returned (.string (Str (putL n wide))) ∧ Below w.heap.size w w' := by
  have hwr : IntKind.u64.wrap (n : Int) = (n : Int) := by simp only [IntKind.wrap_u64]; omega
  have hc : clampN (wide : Int) 8 = wide := by unfold clampN; split <;> omega
  have HP : Hid (∀ W, Calls Try.prog 79 #[.int .u64 n, .int .i64 wide] W fun e w' => e = .returned (.string (Str (putL n wide))) ∧ Below W.heap.size W w') := Lib.hid fun W => by
    have := rput_any n (by omega) wide W
    rw [hc] at this; exact this
  clear hc hw hn
  go_enter Try.func45, Try.ntmps45
  go_wp2_with (go_at_call 79; (with_reducible refine (HP.out _).mono ?_); rintro x w1 ⟨rfl, hb1⟩; have H1 := Lib.hid hb1; clear hb1)
  go_ret
  exact ⟨rfl, H1.out⟩
/-- The talk boxed. -/
def TB (w W : World) (t : TK) (us ur : Value) : Prop := TkAt W w.heap.size t us ur ∧ Below w.heap.size w W
theorem TB.made (w : World) (t : TK) (us ur : Value) (h : adOk t.g) : TB w (w.alloc (.cells (tkC t us ur).toArray 29)) t us ur := ⟨TkAt.made w t us ur h, (Below.refl _ _).alloc (Nat.le_refl _) _⟩
theorem TB.keep {w W W' : World} {t : TK} {us ur : Value} (h : TB w W t us ur) (hb : Below W.heap.size W W') : TB w W' t us ur := ⟨h.1.below hb, bstep h.2 hb⟩
theorem TB.drewN {w W : World} {t : TK} {us ur : Value} (h : TB w W t us ur) (n : Nat) : TB w (W.drewN n) t us ur := h.keep (bdrewN (Below.refl _ _) n)
theorem foldN_le16 (n : Nat) : foldN n ≤ 65535 := foldN_le n


set_option maxRecDepth 100000 in
set_option maxHeartbeats 4000000 in
theorem rwrite8_11 (t : TK) (us ur : Value) (w : World) (ho : adOk t.g) (hve : t.ver = 1) (hki : t.kind = 1) (hr0 : 0 ≤ t.resp) (hr1 : t.resp ≤ 255) :
    Calls Try.prog 13 #[.agg (tkC t us ur).toArray] w fun x w' => x = .returned (.string (Str (wrtT t))) ∧ Below w.heap.size w w' := by
  have H0 := Lib.hid (TB.made w t us ur ho)
  obtain ⟨n, hn⟩ := Int.eq_ofNat_of_zero_le hr0
  have hk : kindT t = 17 := by unfold kindT; rw [hve, hki]; rfl
  have hs : secT t = n := by unfold secT; rw [if_neg (by omega), hn]; rfl
  have hR : restT t = adB t.g := by unfold restT; rw [if_neg (by omega), if_neg (by omega)]
  have HK1 : Hid (∀ W, TB w W t us ur → W.cell? ⟨w.heap.size, 3, none⟩ = some (.int .i64 n) ∧ row? W w.heap.size 4 17 = some (adC t.g) ∧ TB w W t us ur) := Lib.hid fun W h => by
    have h1 := h.1.resp
    rw [hn] at h1
    exact ⟨h1, h.1.rg, h⟩
  have HK2 : Hid (∀ W, TB w W t us ur → W.cell? ⟨w.heap.size, 1, none⟩ = some (.int .i64 1) ∧ W.cell? ⟨w.heap.size, 2, none⟩ = some (.int .i64 1)) := Lib.hid fun W h => by
    have h1 := h.1.ver; have h2 := h.1.kind
    rw [hve] at h1; rw [hki] at h2
    exact ⟨h1, h2⟩
  have HBY : Hid (∀ W, Calls Try.prog 44 #[.agg (adC t.g).toArray] W fun e w' => e = .returned (.string (Str (adB t.g))) ∧ Below W.heap.size W w') := Lib.hid fun W => rbytes_any t.g.1 t.g.2 ho W
  have hW : wrtT t = (putL 17 1 ++ putL n 1) ++ (putL (65535 - foldN (wsum ((putL 17 1 ++ putL n 1) ++ adB t.g))) 2 ++ adB t.g) := by unfold wrtT chkT headT; rw [hk, hs, hR]
  have HM0 : Hid (∀ W, Calls Try.prog 45 #[.int .i64 17, .int .i64 1] W fun x w' => x = .returned (.string (Str (putL 17 1))) ∧ Below W.heap.size W w') := Lib.hid fun W => rnum8_any 17 (by omega) 1 (by omega) W
  have HM1 : Hid (∀ W, Calls Try.prog 45 #[.int .i64 n, .int .i64 1] W fun x w' => x = .returned (.string (Str (putL n 1))) ∧ Below W.heap.size W w') := Lib.hid fun W => rnum8_any n (by omega) 1 (by omega) W
  have hB := adB_le ho
  have z0 := putL_length 17 1; have z1 := putL_length n 1
  have c1 := run_cat (P := Try.prog) (putL 17 1) (putL n 1) (by omega)
  have zH : (putL 17 1 ++ putL n 1).length = 2 := by rw [List.length_append, z0, z1]
  clear hk hs hR
  generalize putL 17 1 ++ putL n 1 = H at c1 hW zH
  generalize putL 17 1 = x0 at *
  generalize putL n 1 = x1 at *
  generalize adC t.g = A at *
  generalize adB t.g = B at *
  have hf := foldN_le16 (wsum (H ++ B))
  have HSUM := Lib.hid (fun W => (rsum_any (H ++ B) (by simp; omega) W).mono fun _ _ h => (show _ ∧ _ = _ from ⟨h.1, h.2.symm⟩))
  obtain ⟨f, hfe⟩ : ∃ f, f = foldN (wsum (H ++ B)) := ⟨_, rfl⟩
  rw [← hfe] at hf hW
  have HSUM2 : Hid (∀ W, Calls Try.prog 20 #[.string (Str (H ++ B))] W fun e w' => e = .returned (.int .i64 f) ∧ w' = W) := Lib.hid fun W => by rw [hfe]; exact HSUM.out W
  clear HSUM hfe
  have hws : IntKind.i64.wrap (65535 - (f : Int)) = 65535 - (f : Int) := by simp only [IntKind.wrap_i64]; omega
  have HM2 : Hid (∀ W, Calls Try.prog 45 #[.int .i64 (65535 - (f : Int)), .int .i64 2] W fun x w' => x = .returned (.string (Str (putL (65535 - f) 2))) ∧ Below W.heap.size W w') := Lib.hid fun W => by
    have := rnum8_any (65535 - f) (by omega) 2 (by omega) W
    rw [show ((65535 - f : Nat) : Int) = 65535 - (f : Int) by omega] at this; exact this
  have z2 := putL_length (65535 - f) 2
  generalize putL (65535 - f) 2 = x2 at HM2 hW z2
  have k1 := run_cat (P := Try.prog) H B (by omega)
  have k2 := run_cat (P := Try.prog) H x2 (by omega)
  have k3 := run_cat (P := Try.prog) (H ++ x2) B (by simp; omega)
  rw [List.append_assoc, ← hW] at k3
  generalize H ++ B = HBt at HSUM2 k1
  generalize H ++ x2 = HX at k2 k3
  generalize wrtT t = WR at hW k3 ⊢
  clear hW z2 z0 z1 zH hB
  go_enter Try.func13, Try.ntmps13
  go_upto_region 1 with (fail)
  generalize w.alloc (.cells (tkC t us ur).toArray 29) = W at H0 ⊢
  go_region_held3 (fun W => W.cell? ⟨w.heap.size, 3, none⟩ = some (.int .i64 n) ∧ row? W w.heap.size 4 17 = some A ∧ TB w W t us ur) (first | assumption | exact HK1.out _ H0.out | exact HK1.out _ (H0.out.drewN 1)) (first
    | (go_at_call 44; (with_reducible refine (HBY.out _).mono ?_); rintro x w3 ⟨rfl, hb3⟩; have hk := HK1.out _ (TB.keep (And.right (And.right (by assumption))) hb3); clear hb3))
  have HB1 := Lib.hid hk.2.2
  clear hk
  obtain ⟨d1, d2⟩ := HK2.out _ HB1.out
  go_upto_region 22 with (first
    | (go_at_call 45; (with_reducible refine (HM0.out _).mono ?_); rintro x w4 ⟨rfl, hb4⟩; have HB2 := Lib.hid (HB1.out.keep hb4); clear hb4 d1 d2)
    | (go_at_call 45; (with_reducible refine (HM1.out _).mono ?_); rintro x w5 ⟨rfl, hb5⟩; have HB3 := Lib.hid (HB2.out.keep hb5); clear hb5))
  go_wp2_with (first
    | (go_at_call 20; (with_reducible refine (HSUM2.out _).mono ?_); rintro x w6 ⟨rfl, hw6⟩; subst hw6)
    | (go_at_call 45; (with_reducible refine (HM2.out _).mono ?_); rintro x w6 ⟨rfl, hb6⟩; have HB4 := Lib.hid (HB3.out.keep hb6); clear hb6))
  go_ret
  exact ⟨rfl, HB4.out.2⟩


set_option maxRecDepth 100000 in
set_option maxHeartbeats 4000000 in
theorem rwrite8_21 (t : TK) (us ur : Value) (w : World) (ho : adOk t.g) (hve : t.ver = 2) (hki : t.kind = 1) (hr0 : 0 ≤ t.resp) (hr1 : t.resp ≤ 255) :
    Calls Try.prog 13 #[.agg (tkC t us ur).toArray] w fun x w' => x = .returned (.string (Str (wrtT t))) ∧ Below w.heap.size w w' := by
  have H0 := Lib.hid (TB.made w t us ur ho)
  obtain ⟨n, hn⟩ := Int.eq_ofNat_of_zero_le hr0
  have hk : kindT t = 17 := by unfold kindT; rw [hve, hki]; rfl
  have hs : secT t = n := by unfold secT; rw [if_neg (by omega), hn]; rfl
  have hR : restT t = adB t.g := by unfold restT; rw [if_neg (by omega), if_neg (by omega)]
  have HK1 : Hid (∀ W, TB w W t us ur → W.cell? ⟨w.heap.size, 3, none⟩ = some (.int .i64 n) ∧ row? W w.heap.size 4 17 = some (adC t.g) ∧ TB w W t us ur) := Lib.hid fun W h => by
    have h1 := h.1.resp
    rw [hn] at h1
    exact ⟨h1, h.1.rg, h⟩
  have HK2 : Hid (∀ W, TB w W t us ur → W.cell? ⟨w.heap.size, 1, none⟩ = some (.int .i64 2) ∧ W.cell? ⟨w.heap.size, 2, none⟩ = some (.int .i64 1)) := Lib.hid fun W h => by
    have h1 := h.1.ver; have h2 := h.1.kind
    rw [hve] at h1; rw [hki] at h2
    exact ⟨h1, h2⟩
  have HBY : Hid (∀ W, Calls Try.prog 44 #[.agg (adC t.g).toArray] W fun e w' => e = .returned (.string (Str (adB t.g))) ∧ Below W.heap.size W w') := Lib.hid fun W => rbytes_any t.g.1 t.g.2 ho W
  have hW : wrtT t = (putL 17 1 ++ putL n 1) ++ (putL (65535 - foldN (wsum ((putL 17 1 ++ putL n 1) ++ adB t.g))) 2 ++ adB t.g) := by unfold wrtT chkT headT; rw [hk, hs, hR]
  have HM0 : Hid (∀ W, Calls Try.prog 45 #[.int .i64 17, .int .i64 1] W fun x w' => x = .returned (.string (Str (putL 17 1))) ∧ Below W.heap.size W w') := Lib.hid fun W => rnum8_any 17 (by omega) 1 (by omega) W
  have HM1 : Hid (∀ W, Calls Try.prog 45 #[.int .i64 n, .int .i64 1] W fun x w' => x = .returned (.string (Str (putL n 1))) ∧ Below W.heap.size W w') := Lib.hid fun W => rnum8_any n (by omega) 1 (by omega) W
  have hB := adB_le ho
  have z0 := putL_length 17 1; have z1 := putL_length n 1
  have c1 := run_cat (P := Try.prog) (putL 17 1) (putL n 1) (by omega)
  have zH : (putL 17 1 ++ putL n 1).length = 2 := by rw [List.length_append, z0, z1]
  clear hk hs hR
  generalize putL 17 1 ++ putL n 1 = H at c1 hW zH
  generalize putL 17 1 = x0 at *
  generalize putL n 1 = x1 at *
  generalize adC t.g = A at *
  generalize adB t.g = B at *
  have hf := foldN_le16 (wsum (H ++ B))
  have HSUM := Lib.hid (fun W => (rsum_any (H ++ B) (by simp; omega) W).mono fun _ _ h => (show _ ∧ _ = _ from ⟨h.1, h.2.symm⟩))
  obtain ⟨f, hfe⟩ : ∃ f, f = foldN (wsum (H ++ B)) := ⟨_, rfl⟩
  rw [← hfe] at hf hW
  have HSUM2 : Hid (∀ W, Calls Try.prog 20 #[.string (Str (H ++ B))] W fun e w' => e = .returned (.int .i64 f) ∧ w' = W) := Lib.hid fun W => by rw [hfe]; exact HSUM.out W
  clear HSUM hfe
  have hws : IntKind.i64.wrap (65535 - (f : Int)) = 65535 - (f : Int) := by simp only [IntKind.wrap_i64]; omega
  have HM2 : Hid (∀ W, Calls Try.prog 45 #[.int .i64 (65535 - (f : Int)), .int .i64 2] W fun x w' => x = .returned (.string (Str (putL (65535 - f) 2))) ∧ Below W.heap.size W w') := Lib.hid fun W => by
    have := rnum8_any (65535 - f) (by omega) 2 (by omega) W
    rw [show ((65535 - f : Nat) : Int) = 65535 - (f : Int) by omega] at this; exact this
  have z2 := putL_length (65535 - f) 2
  generalize putL (65535 - f) 2 = x2 at HM2 hW z2
  have k1 := run_cat (P := Try.prog) H B (by omega)
  have k2 := run_cat (P := Try.prog) H x2 (by omega)
  have k3 := run_cat (P := Try.prog) (H ++ x2) B (by simp; omega)
  rw [List.append_assoc, ← hW] at k3
  generalize H ++ B = HBt at HSUM2 k1
  generalize H ++ x2 = HX at k2 k3
  generalize wrtT t = WR at hW k3 ⊢
  clear hW z2 z0 z1 zH hB
  go_enter Try.func13, Try.ntmps13
  go_upto_region 1 with (fail)
  generalize w.alloc (.cells (tkC t us ur).toArray 29) = W at H0 ⊢
  go_region_held3 (fun W => W.cell? ⟨w.heap.size, 3, none⟩ = some (.int .i64 n) ∧ row? W w.heap.size 4 17 = some A ∧ TB w W t us ur) (first | assumption | exact HK1.out _ H0.out | exact HK1.out _ (H0.out.drewN 1)) (first
    | (go_at_call 44; (with_reducible refine (HBY.out _).mono ?_); rintro x w3 ⟨rfl, hb3⟩; have hk := HK1.out _ (TB.keep (And.right (And.right (by assumption))) hb3); clear hb3))
  have HB1 := Lib.hid hk.2.2
  clear hk
  obtain ⟨d1, d2⟩ := HK2.out _ HB1.out
  go_upto_region 22 with (first
    | (go_at_call 45; (with_reducible refine (HM0.out _).mono ?_); rintro x w4 ⟨rfl, hb4⟩; have HB2 := Lib.hid (HB1.out.keep hb4); clear hb4 d1 d2)
    | (go_at_call 45; (with_reducible refine (HM1.out _).mono ?_); rintro x w5 ⟨rfl, hb5⟩; have HB3 := Lib.hid (HB2.out.keep hb5); clear hb5))
  go_wp2_with (first
    | (go_at_call 20; (with_reducible refine (HSUM2.out _).mono ?_); rintro x w6 ⟨rfl, hw6⟩; subst hw6)
    | (go_at_call 45; (with_reducible refine (HM2.out _).mono ?_); rintro x w6 ⟨rfl, hb6⟩; have HB4 := Lib.hid (HB3.out.keep hb6); clear hb6))
  go_ret
  exact ⟨rfl, HB4.out.2⟩


set_option maxRecDepth 100000 in
set_option maxHeartbeats 4000000 in
theorem rwrite8_12 (t : TK) (us ur : Value) (w : World) (ho : adOk t.g) (hve : t.ver = 1) (hki : t.kind = 2) (hr0 : 0 ≤ t.resp) (hr1 : t.resp ≤ 255) :
    Calls Try.prog 13 #[.agg (tkC t us ur).toArray] w fun x w' => x = .returned (.string (Str (wrtT t))) ∧ Below w.heap.size w w' := by
  have H0 := Lib.hid (TB.made w t us ur ho)
  obtain ⟨n, hn⟩ := Int.eq_ofNat_of_zero_le hr0
  have hk : kindT t = 18 := by unfold kindT; rw [hve, hki]; rfl
  have hs : secT t = n := by unfold secT; rw [if_neg (by omega), hn]; rfl
  have hR : restT t = adB t.g := by unfold restT; rw [if_neg (by omega), if_neg (by omega)]
  have HK1 : Hid (∀ W, TB w W t us ur → W.cell? ⟨w.heap.size, 3, none⟩ = some (.int .i64 n) ∧ row? W w.heap.size 4 17 = some (adC t.g) ∧ TB w W t us ur) := Lib.hid fun W h => by
    have h1 := h.1.resp
    rw [hn] at h1
    exact ⟨h1, h.1.rg, h⟩
  have HK2 : Hid (∀ W, TB w W t us ur → W.cell? ⟨w.heap.size, 1, none⟩ = some (.int .i64 1) ∧ W.cell? ⟨w.heap.size, 2, none⟩ = some (.int .i64 2)) := Lib.hid fun W h => by
    have h1 := h.1.ver; have h2 := h.1.kind
    rw [hve] at h1; rw [hki] at h2
    exact ⟨h1, h2⟩
  have HBY : Hid (∀ W, Calls Try.prog 44 #[.agg (adC t.g).toArray] W fun e w' => e = .returned (.string (Str (adB t.g))) ∧ Below W.heap.size W w') := Lib.hid fun W => rbytes_any t.g.1 t.g.2 ho W
  have hW : wrtT t = (putL 18 1 ++ putL n 1) ++ (putL (65535 - foldN (wsum ((putL 18 1 ++ putL n 1) ++ adB t.g))) 2 ++ adB t.g) := by unfold wrtT chkT headT; rw [hk, hs, hR]
  have HM0 : Hid (∀ W, Calls Try.prog 45 #[.int .i64 18, .int .i64 1] W fun x w' => x = .returned (.string (Str (putL 18 1))) ∧ Below W.heap.size W w') := Lib.hid fun W => rnum8_any 18 (by omega) 1 (by omega) W
  have HM1 : Hid (∀ W, Calls Try.prog 45 #[.int .i64 n, .int .i64 1] W fun x w' => x = .returned (.string (Str (putL n 1))) ∧ Below W.heap.size W w') := Lib.hid fun W => rnum8_any n (by omega) 1 (by omega) W
  have hB := adB_le ho
  have z0 := putL_length 18 1; have z1 := putL_length n 1
  have c1 := run_cat (P := Try.prog) (putL 18 1) (putL n 1) (by omega)
  have zH : (putL 18 1 ++ putL n 1).length = 2 := by rw [List.length_append, z0, z1]
  clear hk hs hR
  generalize putL 18 1 ++ putL n 1 = H at c1 hW zH
  generalize putL 18 1 = x0 at *
  generalize putL n 1 = x1 at *
  generalize adC t.g = A at *
  generalize adB t.g = B at *
  have hf := foldN_le16 (wsum (H ++ B))
  have HSUM := Lib.hid (fun W => (rsum_any (H ++ B) (by simp; omega) W).mono fun _ _ h => (show _ ∧ _ = _ from ⟨h.1, h.2.symm⟩))
  obtain ⟨f, hfe⟩ : ∃ f, f = foldN (wsum (H ++ B)) := ⟨_, rfl⟩
  rw [← hfe] at hf hW
  have HSUM2 : Hid (∀ W, Calls Try.prog 20 #[.string (Str (H ++ B))] W fun e w' => e = .returned (.int .i64 f) ∧ w' = W) := Lib.hid fun W => by rw [hfe]; exact HSUM.out W
  clear HSUM hfe
  have hws : IntKind.i64.wrap (65535 - (f : Int)) = 65535 - (f : Int) := by simp only [IntKind.wrap_i64]; omega
  have HM2 : Hid (∀ W, Calls Try.prog 45 #[.int .i64 (65535 - (f : Int)), .int .i64 2] W fun x w' => x = .returned (.string (Str (putL (65535 - f) 2))) ∧ Below W.heap.size W w') := Lib.hid fun W => by
    have := rnum8_any (65535 - f) (by omega) 2 (by omega) W
    rw [show ((65535 - f : Nat) : Int) = 65535 - (f : Int) by omega] at this; exact this
  have z2 := putL_length (65535 - f) 2
  generalize putL (65535 - f) 2 = x2 at HM2 hW z2
  have k1 := run_cat (P := Try.prog) H B (by omega)
  have k2 := run_cat (P := Try.prog) H x2 (by omega)
  have k3 := run_cat (P := Try.prog) (H ++ x2) B (by simp; omega)
  rw [List.append_assoc, ← hW] at k3
  generalize H ++ B = HBt at HSUM2 k1
  generalize H ++ x2 = HX at k2 k3
  generalize wrtT t = WR at hW k3 ⊢
  clear hW z2 z0 z1 zH hB
  go_enter Try.func13, Try.ntmps13
  go_upto_region 1 with (fail)
  generalize w.alloc (.cells (tkC t us ur).toArray 29) = W at H0 ⊢
  go_region_held3 (fun W => W.cell? ⟨w.heap.size, 3, none⟩ = some (.int .i64 n) ∧ row? W w.heap.size 4 17 = some A ∧ TB w W t us ur) (first | assumption | exact HK1.out _ H0.out | exact HK1.out _ (H0.out.drewN 1)) (first
    | (go_at_call 44; (with_reducible refine (HBY.out _).mono ?_); rintro x w3 ⟨rfl, hb3⟩; have hk := HK1.out _ (TB.keep (And.right (And.right (by assumption))) hb3); clear hb3))
  have HB1 := Lib.hid hk.2.2
  clear hk
  obtain ⟨d1, d2⟩ := HK2.out _ HB1.out
  go_upto_region 22 with (first
    | (go_at_call 45; (with_reducible refine (HM0.out _).mono ?_); rintro x w4 ⟨rfl, hb4⟩; have HB2 := Lib.hid (HB1.out.keep hb4); clear hb4 d1 d2)
    | (go_at_call 45; (with_reducible refine (HM1.out _).mono ?_); rintro x w5 ⟨rfl, hb5⟩; have HB3 := Lib.hid (HB2.out.keep hb5); clear hb5))
  go_wp2_with (first
    | (go_at_call 20; (with_reducible refine (HSUM2.out _).mono ?_); rintro x w6 ⟨rfl, hw6⟩; subst hw6)
    | (go_at_call 45; (with_reducible refine (HM2.out _).mono ?_); rintro x w6 ⟨rfl, hb6⟩; have HB4 := Lib.hid (HB3.out.keep hb6); clear hb6))
  go_ret
  exact ⟨rfl, HB4.out.2⟩


set_option maxRecDepth 100000 in
set_option maxHeartbeats 4000000 in
theorem rwrite8_22 (t : TK) (us ur : Value) (w : World) (ho : adOk t.g) (hve : t.ver = 2) (hki : t.kind = 2) (hr0 : 0 ≤ t.resp) (hr1 : t.resp ≤ 255) :
    Calls Try.prog 13 #[.agg (tkC t us ur).toArray] w fun x w' => x = .returned (.string (Str (wrtT t))) ∧ Below w.heap.size w w' := by
  have H0 := Lib.hid (TB.made w t us ur ho)
  obtain ⟨n, hn⟩ := Int.eq_ofNat_of_zero_le hr0
  have hk : kindT t = 22 := by unfold kindT; rw [hve, hki]; rfl
  have hs : secT t = n := by unfold secT; rw [if_neg (by omega), hn]; rfl
  have hR : restT t = adB t.g := by unfold restT; rw [if_neg (by omega), if_neg (by omega)]
  have HK1 : Hid (∀ W, TB w W t us ur → W.cell? ⟨w.heap.size, 3, none⟩ = some (.int .i64 n) ∧ row? W w.heap.size 4 17 = some (adC t.g) ∧ TB w W t us ur) := Lib.hid fun W h => by
    have h1 := h.1.resp
    rw [hn] at h1
    exact ⟨h1, h.1.rg, h⟩
  have HK2 : Hid (∀ W, TB w W t us ur → W.cell? ⟨w.heap.size, 1, none⟩ = some (.int .i64 2) ∧ W.cell? ⟨w.heap.size, 2, none⟩ = some (.int .i64 2)) := Lib.hid fun W h => by
    have h1 := h.1.ver; have h2 := h.1.kind
    rw [hve] at h1; rw [hki] at h2
    exact ⟨h1, h2⟩
  have HBY : Hid (∀ W, Calls Try.prog 44 #[.agg (adC t.g).toArray] W fun e w' => e = .returned (.string (Str (adB t.g))) ∧ Below W.heap.size W w') := Lib.hid fun W => rbytes_any t.g.1 t.g.2 ho W
  have hW : wrtT t = (putL 22 1 ++ putL n 1) ++ (putL (65535 - foldN (wsum ((putL 22 1 ++ putL n 1) ++ adB t.g))) 2 ++ adB t.g) := by unfold wrtT chkT headT; rw [hk, hs, hR]
  have HM0 : Hid (∀ W, Calls Try.prog 45 #[.int .i64 22, .int .i64 1] W fun x w' => x = .returned (.string (Str (putL 22 1))) ∧ Below W.heap.size W w') := Lib.hid fun W => rnum8_any 22 (by omega) 1 (by omega) W
  have HM1 : Hid (∀ W, Calls Try.prog 45 #[.int .i64 n, .int .i64 1] W fun x w' => x = .returned (.string (Str (putL n 1))) ∧ Below W.heap.size W w') := Lib.hid fun W => rnum8_any n (by omega) 1 (by omega) W
  have hB := adB_le ho
  have z0 := putL_length 22 1; have z1 := putL_length n 1
  have c1 := run_cat (P := Try.prog) (putL 22 1) (putL n 1) (by omega)
  have zH : (putL 22 1 ++ putL n 1).length = 2 := by rw [List.length_append, z0, z1]
  clear hk hs hR
  generalize putL 22 1 ++ putL n 1 = H at c1 hW zH
  generalize putL 22 1 = x0 at *
  generalize putL n 1 = x1 at *
  generalize adC t.g = A at *
  generalize adB t.g = B at *
  have hf := foldN_le16 (wsum (H ++ B))
  have HSUM := Lib.hid (fun W => (rsum_any (H ++ B) (by simp; omega) W).mono fun _ _ h => (show _ ∧ _ = _ from ⟨h.1, h.2.symm⟩))
  obtain ⟨f, hfe⟩ : ∃ f, f = foldN (wsum (H ++ B)) := ⟨_, rfl⟩
  rw [← hfe] at hf hW
  have HSUM2 : Hid (∀ W, Calls Try.prog 20 #[.string (Str (H ++ B))] W fun e w' => e = .returned (.int .i64 f) ∧ w' = W) := Lib.hid fun W => by rw [hfe]; exact HSUM.out W
  clear HSUM hfe
  have hws : IntKind.i64.wrap (65535 - (f : Int)) = 65535 - (f : Int) := by simp only [IntKind.wrap_i64]; omega
  have HM2 : Hid (∀ W, Calls Try.prog 45 #[.int .i64 (65535 - (f : Int)), .int .i64 2] W fun x w' => x = .returned (.string (Str (putL (65535 - f) 2))) ∧ Below W.heap.size W w') := Lib.hid fun W => by
    have := rnum8_any (65535 - f) (by omega) 2 (by omega) W
    rw [show ((65535 - f : Nat) : Int) = 65535 - (f : Int) by omega] at this; exact this
  have z2 := putL_length (65535 - f) 2
  generalize putL (65535 - f) 2 = x2 at HM2 hW z2
  have k1 := run_cat (P := Try.prog) H B (by omega)
  have k2 := run_cat (P := Try.prog) H x2 (by omega)
  have k3 := run_cat (P := Try.prog) (H ++ x2) B (by simp; omega)
  rw [List.append_assoc, ← hW] at k3
  generalize H ++ B = HBt at HSUM2 k1
  generalize H ++ x2 = HX at k2 k3
  generalize wrtT t = WR at hW k3 ⊢
  clear hW z2 z0 z1 zH hB
  go_enter Try.func13, Try.ntmps13
  go_upto_region 1 with (fail)
  generalize w.alloc (.cells (tkC t us ur).toArray 29) = W at H0 ⊢
  go_region_held3 (fun W => W.cell? ⟨w.heap.size, 3, none⟩ = some (.int .i64 n) ∧ row? W w.heap.size 4 17 = some A ∧ TB w W t us ur) (first | assumption | exact HK1.out _ H0.out | exact HK1.out _ (H0.out.drewN 1)) (first
    | (go_at_call 44; (with_reducible refine (HBY.out _).mono ?_); rintro x w3 ⟨rfl, hb3⟩; have hk := HK1.out _ (TB.keep (And.right (And.right (by assumption))) hb3); clear hb3))
  have HB1 := Lib.hid hk.2.2
  clear hk
  obtain ⟨d1, d2⟩ := HK2.out _ HB1.out
  go_upto_region 22 with (first
    | (go_at_call 45; (with_reducible refine (HM0.out _).mono ?_); rintro x w4 ⟨rfl, hb4⟩; have HB2 := Lib.hid (HB1.out.keep hb4); clear hb4 d1 d2)
    | (go_at_call 45; (with_reducible refine (HM1.out _).mono ?_); rintro x w5 ⟨rfl, hb5⟩; have HB3 := Lib.hid (HB2.out.keep hb5); clear hb5))
  go_wp2_with (first
    | (go_at_call 20; (with_reducible refine (HSUM2.out _).mono ?_); rintro x w6 ⟨rfl, hw6⟩; subst hw6)
    | (go_at_call 45; (with_reducible refine (HM2.out _).mono ?_); rintro x w6 ⟨rfl, hb6⟩; have HB4 := Lib.hid (HB3.out.keep hb6); clear hb6))
  go_ret
  exact ⟨rfl, HB4.out.2⟩


set_option maxRecDepth 100000 in
set_option maxHeartbeats 4000000 in
theorem rwrite8_23 (t : TK) (us ur : Value) (w : World) (ho : adOk t.g) (hve : t.ver = 2) (hki : t.kind = 3) (hr0 : 0 ≤ t.resp) (hr1 : t.resp ≤ 255) :
    Calls Try.prog 13 #[.agg (tkC t us ur).toArray] w fun x w' => x = .returned (.string (Str (wrtT t))) ∧ Below w.heap.size w w' := by
  have H0 := Lib.hid (TB.made w t us ur ho)
  obtain ⟨n, hn⟩ := Int.eq_ofNat_of_zero_le hr0
  have hk : kindT t = 23 := by unfold kindT; rw [hve, hki]; rfl
  have hs : secT t = n := by unfold secT; rw [if_neg (by omega), hn]; rfl
  have hR : restT t = adB t.g := by unfold restT; rw [if_neg (by omega), if_neg (by omega)]
  have HK1 : Hid (∀ W, TB w W t us ur → W.cell? ⟨w.heap.size, 3, none⟩ = some (.int .i64 n) ∧ row? W w.heap.size 4 17 = some (adC t.g) ∧ TB w W t us ur) := Lib.hid fun W h => by
    have h1 := h.1.resp
    rw [hn] at h1
    exact ⟨h1, h.1.rg, h⟩
  have HK2 : Hid (∀ W, TB w W t us ur → W.cell? ⟨w.heap.size, 1, none⟩ = some (.int .i64 2) ∧ W.cell? ⟨w.heap.size, 2, none⟩ = some (.int .i64 3)) := Lib.hid fun W h => by
    have h1 := h.1.ver; have h2 := h.1.kind
    rw [hve] at h1; rw [hki] at h2
    exact ⟨h1, h2⟩
  have HBY : Hid (∀ W, Calls Try.prog 44 #[.agg (adC t.g).toArray] W fun e w' => e = .returned (.string (Str (adB t.g))) ∧ Below W.heap.size W w') := Lib.hid fun W => rbytes_any t.g.1 t.g.2 ho W
  have hW : wrtT t = (putL 23 1 ++ putL n 1) ++ (putL (65535 - foldN (wsum ((putL 23 1 ++ putL n 1) ++ adB t.g))) 2 ++ adB t.g) := by unfold wrtT chkT headT; rw [hk, hs, hR]
  have HM0 : Hid (∀ W, Calls Try.prog 45 #[.int .i64 23, .int .i64 1] W fun x w' => x = .returned (.string (Str (putL 23 1))) ∧ Below W.heap.size W w') := Lib.hid fun W => rnum8_any 23 (by omega) 1 (by omega) W
  have HM1 : Hid (∀ W, Calls Try.prog 45 #[.int .i64 n, .int .i64 1] W fun x w' => x = .returned (.string (Str (putL n 1))) ∧ Below W.heap.size W w') := Lib.hid fun W => rnum8_any n (by omega) 1 (by omega) W
  have hB := adB_le ho
  have z0 := putL_length 23 1; have z1 := putL_length n 1
  have c1 := run_cat (P := Try.prog) (putL 23 1) (putL n 1) (by omega)
  have zH : (putL 23 1 ++ putL n 1).length = 2 := by rw [List.length_append, z0, z1]
  clear hk hs hR
  generalize putL 23 1 ++ putL n 1 = H at c1 hW zH
  generalize putL 23 1 = x0 at *
  generalize putL n 1 = x1 at *
  generalize adC t.g = A at *
  generalize adB t.g = B at *
  have hf := foldN_le16 (wsum (H ++ B))
  have HSUM := Lib.hid (fun W => (rsum_any (H ++ B) (by simp; omega) W).mono fun _ _ h => (show _ ∧ _ = _ from ⟨h.1, h.2.symm⟩))
  obtain ⟨f, hfe⟩ : ∃ f, f = foldN (wsum (H ++ B)) := ⟨_, rfl⟩
  rw [← hfe] at hf hW
  have HSUM2 : Hid (∀ W, Calls Try.prog 20 #[.string (Str (H ++ B))] W fun e w' => e = .returned (.int .i64 f) ∧ w' = W) := Lib.hid fun W => by rw [hfe]; exact HSUM.out W
  clear HSUM hfe
  have hws : IntKind.i64.wrap (65535 - (f : Int)) = 65535 - (f : Int) := by simp only [IntKind.wrap_i64]; omega
  have HM2 : Hid (∀ W, Calls Try.prog 45 #[.int .i64 (65535 - (f : Int)), .int .i64 2] W fun x w' => x = .returned (.string (Str (putL (65535 - f) 2))) ∧ Below W.heap.size W w') := Lib.hid fun W => by
    have := rnum8_any (65535 - f) (by omega) 2 (by omega) W
    rw [show ((65535 - f : Nat) : Int) = 65535 - (f : Int) by omega] at this; exact this
  have z2 := putL_length (65535 - f) 2
  generalize putL (65535 - f) 2 = x2 at HM2 hW z2
  have k1 := run_cat (P := Try.prog) H B (by omega)
  have k2 := run_cat (P := Try.prog) H x2 (by omega)
  have k3 := run_cat (P := Try.prog) (H ++ x2) B (by simp; omega)
  rw [List.append_assoc, ← hW] at k3
  generalize H ++ B = HBt at HSUM2 k1
  generalize H ++ x2 = HX at k2 k3
  generalize wrtT t = WR at hW k3 ⊢
  clear hW z2 z0 z1 zH hB
  go_enter Try.func13, Try.ntmps13
  go_upto_region 1 with (fail)
  generalize w.alloc (.cells (tkC t us ur).toArray 29) = W at H0 ⊢
  go_region_held3 (fun W => W.cell? ⟨w.heap.size, 3, none⟩ = some (.int .i64 n) ∧ row? W w.heap.size 4 17 = some A ∧ TB w W t us ur) (first | assumption | exact HK1.out _ H0.out | exact HK1.out _ (H0.out.drewN 1)) (first
    | (go_at_call 44; (with_reducible refine (HBY.out _).mono ?_); rintro x w3 ⟨rfl, hb3⟩; have hk := HK1.out _ (TB.keep (And.right (And.right (by assumption))) hb3); clear hb3))
  have HB1 := Lib.hid hk.2.2
  clear hk
  obtain ⟨d1, d2⟩ := HK2.out _ HB1.out
  go_upto_region 22 with (first
    | (go_at_call 45; (with_reducible refine (HM0.out _).mono ?_); rintro x w4 ⟨rfl, hb4⟩; have HB2 := Lib.hid (HB1.out.keep hb4); clear hb4 d1 d2)
    | (go_at_call 45; (with_reducible refine (HM1.out _).mono ?_); rintro x w5 ⟨rfl, hb5⟩; have HB3 := Lib.hid (HB2.out.keep hb5); clear hb5))
  go_wp2_with (first
    | (go_at_call 20; (with_reducible refine (HSUM2.out _).mono ?_); rintro x w6 ⟨rfl, hw6⟩; subst hw6)
    | (go_at_call 45; (with_reducible refine (HM2.out _).mono ?_); rintro x w6 ⟨rfl, hb6⟩; have HB4 := Lib.hid (HB3.out.keep hb6); clear hb6))
  go_ret
  exact ⟨rfl, HB4.out.2⟩

end Go.Proofs.Ytchbkamjmkfikaa
