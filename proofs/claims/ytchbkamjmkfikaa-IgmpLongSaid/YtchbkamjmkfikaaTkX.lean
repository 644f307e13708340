/-
  The document's own Write of layer 8: a query of version 3.
-/
import Derived.Test.YtchbkamjmkfikaaTkW
namespace Go.Proofs.Ytchbkamjmkfikaa
open Go.RowKit
set_option linter.unusedVariables false
set_option linter.unusedSimpArgs false
attribute [local go_sem ↓] ld_addr st_addr bld_addr ld_rec st_rec
attribute [local go_sem] ldr_addr str_addr ldr_rec str_rec

set_option maxRecDepth 100000 in
set_option maxHeartbeats 4000000 in
theorem rwrite8_31 (t : TK) (us ur : Value) (w : World) (ho : adOk t.g) (ha : Ads w us t.src) (hve : t.ver = 3) (hki : t.kind = 1) (hr0 : 0 ≤ t.rob) (hr1 : t.rob ≤ 100) (hl : t.src.length ≤ 100) :
    Calls Try.prog 13 #[.agg (tkC t us ur).toArray] w fun x w' => x = .returned (.string (Str (wrtT t))) ∧ Below w.heap.size w w' := by
  have H0 := Lib.hid (TB.made w t us ur ho)
  obtain ⟨r, hr⟩ := Int.eq_ofNat_of_zero_le hr0
  have hk : kindT t = 17 := by unfold kindT; rw [hve, hki]; rfl
  have hs : secT t = codeN t.resp 16 255 := by unfold secT; rw [if_pos ⟨hki, hve⟩]
  have hfl : flagT t = if t.quiet then r + 8 else r := by unfold flagT; rw [hr]; rfl
  have hR : restT t = adB t.g ++ (putL (flagT t) 1 ++ (putL (codeN t.every 16 255) 1 ++ (putL t.src.length 2 ++ listL t.src))) := by unfold restT; rw [if_neg (by omega), if_pos ⟨hki, hve⟩]
  have HK1 : Hid (∀ W, TB w W t us ur → W.cell? ⟨w.heap.size, 3, none⟩ = some (.int .i64 t.resp) ∧ row? W w.heap.size 4 17 = some (adC t.g) ∧ TB w W t us ur) := Lib.hid fun W h => ⟨h.1.resp, h.1.rg, h⟩
  have HK2 : Hid (∀ W, TB w W t us ur → W.cell? ⟨w.heap.size, 1, none⟩ = some (.int .i64 3) ∧ W.cell? ⟨w.heap.size, 2, none⟩ = some (.int .i64 1) ∧ W.cell? ⟨w.heap.size, 3, none⟩ = some (.int .i64 t.resp) ∧ W.cell? ⟨w.heap.size, 21, none⟩ = some (.bool t.quiet) ∧ W.cell? ⟨w.heap.size, 22, none⟩ = some (.int .i64 r)) := Lib.hid fun W h => by
    have h1 := h.1.ver; have h2 := h.1.kind; have h3 := h.1.rob
    rw [hve] at h1; rw [hki] at h2; rw [hr] at h3
    exact ⟨h1, h2, h.1.resp, h.1.quiet, h3⟩
  obtain ⟨pu, cu, eu, hlu, hlm⟩ := ha.len
  have HK3 : Hid (∀ W, TB w W t us ur → W.cell? ⟨w.heap.size, 23, none⟩ = some (.int .i64 t.every) ∧ W.cell? ⟨w.heap.size, 24, none⟩ = some (.slice pu t.src.length cu) ∧ TB w W t us ur) := Lib.hid fun W h => by
    have h1 := h.1.us
    rw [eu] at h1
    exact ⟨h.1.every, h1, h⟩
  have HLI : Hid (∀ W, TB w W t us ur → Calls Try.prog 46 #[.slice pu t.src.length cu] W fun x w' => x = .returned (.string (Str (listL t.src))) ∧ Below W.heap.size W w') := Lib.hid fun W h => by
    have := rlist8_any us t.src W (ha.below h.2) (by omega)
    rw [eu] at this; exact this
  have HBY : Hid (∀ W, Calls Try.prog 44 #[.agg (adC t.g).toArray] W fun e w' => e = .returned (.string (Str (adB t.g))) ∧ Below W.heap.size W w') := Lib.hid fun W => rbytes_any t.g.1 t.g.2 ho W
  have HC1 : Hid (∀ W, Calls Try.prog 47 #[.int .i64 t.resp] W fun e w' => e = .returned (.int .i64 (codeN t.resp 16 255)) ∧ W = w') := Lib.hid fun W => rcode8 t.resp W
  have HC2 : Hid (∀ W, Calls Try.prog 47 #[.int .i64 t.every] W fun e w' => e = .returned (.int .i64 (codeN t.every 16 255)) ∧ w' = W) := Lib.hid fun W => (rcode8 t.every W).mono fun _ _ h => ⟨h.1, h.2.symm⟩
  have hle1 := codeN_le t.resp 16 255
  have hle2 := codeN_le t.every 16 255
  have HMF : Hid (∀ W, Calls Try.prog 45 #[.int .i64 (flagT t : Nat), .int .i64 1] W fun x w' => x = .returned (.string (Str (putL (flagT t) 1))) ∧ Below W.heap.size W w') := Lib.hid fun W => rnum8_any _ (by rw [hfl]; split <;> omega) 1 (by omega) W
  have HME : Hid (∀ W, Calls Try.prog 45 #[.int .i64 (codeN t.every 16 255), .int .i64 1] W fun x w' => x = .returned (.string (Str (putL (codeN t.every 16 255) 1))) ∧ Below W.heap.size W w') := Lib.hid fun W => rnum8_any _ (by omega) 1 (by omega) W
  have HMN : Hid (∀ W, Calls Try.prog 45 #[.int .i64 t.src.length, .int .i64 2] W fun x w' => x = .returned (.string (Str (putL t.src.length 2))) ∧ Below W.heap.size W w') := Lib.hid fun W => rnum8_any _ (by omega) 2 (by omega) W
  have hW : wrtT t = (putL 17 1 ++ putL (codeN t.resp 16 255) 1) ++ (putL (65535 - foldN (wsum ((putL 17 1 ++ putL (codeN t.resp 16 255) 1) ++ restT t))) 2 ++ restT t) := by unfold wrtT chkT headT; rw [hk, hs]
  have HM0 : Hid (∀ W, Calls Try.prog 45 #[.int .i64 17, .int .i64 1] W fun x w' => x = .returned (.string (Str (putL 17 1))) ∧ Below W.heap.size W w') := Lib.hid fun W => rnum8_any 17 (by omega) 1 (by omega) W
  have HM1 : Hid (∀ W, Calls Try.prog 45 #[.int .i64 (codeN t.resp 16 255), .int .i64 1] W fun x w' => x = .returned (.string (Str (putL (codeN t.resp 16 255) 1))) ∧ Below W.heap.size W w') := Lib.hid fun W => rnum8_any _ (by omega) 1 (by omega) W
  have hB := adB_le ho
  have hLL := listL_le ha.ok
  have z0 := putL_length 17 1; have z1 := putL_length (codeN t.resp 16 255) 1; have zf := putL_length (flagT t) 1; have ze := putL_length (codeN t.every 16 255) 1; have zn := putL_length t.src.length 2
  have c1 := run_cat (P := Try.prog) (putL 17 1) (putL (codeN t.resp 16 255) 1) (by omega)
  have zH : (putL 17 1 ++ putL (codeN t.resp 16 255) 1).length = 2 := by rw [List.length_append, z0, z1]
  have hlb : t.src.length ≤ 100 := hl
  clear hk hs
  generalize putL 17 1 ++ putL (codeN t.resp 16 255) 1 = H at c1 hW zH
  generalize putL 17 1 = x0 at *
  generalize putL (codeN t.resp 16 255) 1 = x1 at *
  generalize putL (flagT t) 1 = xf at *
  generalize putL (codeN t.every 16 255) 1 = xe at *
  generalize putL t.src.length 2 = xn at *
  generalize codeN t.resp 16 255 = n1 at *
  generalize codeN t.every 16 255 = n2 at *
  generalize listL t.src = LS at *
  generalize adC t.g = A at *
  generalize adB t.g = BG at *
  have q1 := run_cat (P := Try.prog) BG xf (by omega)
  have q2 := run_cat (P := Try.prog) (BG ++ xf) xe (by simp; omega)
  have q3 := run_cat (P := Try.prog) (BG ++ xf ++ xe) xn (by simp; omega)
  have q4 := run_cat (P := Try.prog) (BG ++ xf ++ xe ++ xn) LS (by simp; omega)
  rw [show BG ++ xf ++ xe ++ xn ++ LS = restT t by rw [hR]; simp] at q4
  have hB : (restT t).length ≤ 5000 := by rw [hR]; simp; omega
  clear hR hLL
  generalize restT t = B at *
  generalize BG ++ xf ++ xe ++ xn = C3 at *
  generalize BG ++ xf ++ xe = C2 at *
  generalize BG ++ xf = C1 at *
  have hf := foldN_le16 (wsum (H ++ B))
  have HSUM := Lib.hid (fun W => (rsum_any (H ++ B) (by simp; omega) W).mono fun _ _ h => (show _ ∧ _ = _ from ⟨h.1, h.2.symm⟩))
  obtain ⟨f, hfe⟩ : ∃ f, f = foldN (wsum (H ++ B)) := ⟨_, rfl⟩
  rw [← hfe] at hf hW
  have HSUM2 : Hid (∀ W, Calls Try.prog 20 #[.string (Str (H ++ B))] W fun e w' => e = .returned (.int .i64 f) ∧ w' = W) := Lib.hid fun W => by rw [hfe]; exact HSUM.out W
  clear HSUM hfe
  have hws : IntKind.i64.wrap (65535 - (f : Int)) = 65535 - (f : Int) := by simp only [IntKind.wrap_i64]; omega
  have HM2 : Hid (∀ W, Calls Try.prog 45 #[.int .i64 (65535 - (f : Int)), .int .i64 2] W fun x w' => x = .returned (.string (Str (putL (65535 - f) 2))) ∧ Below W.heap.size W w') := Lib.hid fun W => by
    have := rnum8_any (65535 - f) (by omega) 2 (by omega) W
    rw [show ((65535 - f : Nat) : Int) = 65535 - (f : Int) by omega] at this; exact this
  have z2 := putL_length (65535 - f) 2
  generalize putL (65535 - f) 2 = x2 at HM2 hW z2
  have k1 := run_cat (P := Try.prog) H B (by omega)
  have k2 := run_cat (P := Try.prog) H x2 (by omega)
  have k3 := run_cat (P := Try.prog) (H ++ x2) B (by simp; omega)
  rw [List.append_assoc, ← hW] at k3
  generalize H ++ B = HBt at HSUM2 k1
  generalize H ++ x2 = HX at k2 k3
  generalize wrtT t = WR at hW k3 ⊢
  clear hW z2 z0 z1 zH hB zf ze zn
  have hrb : r ≤ 100 := by omega
  obtain ⟨resp, hresp⟩ : ∃ x, x = t.resp := ⟨_, rfl⟩
  obtain ⟨every, hevery⟩ : ∃ x, x = t.every := ⟨_, rfl⟩
  obtain ⟨ls, hls⟩ : ∃ x, x = t.src.length := ⟨_, rfl⟩
  obtain ⟨fl, hflg⟩ : ∃ x, x = flagT t := ⟨_, rfl⟩
  obtain ⟨qu, hqu⟩ : ∃ x, x = t.quiet := ⟨_, rfl⟩
  rw [← hresp] at HK1 HK2 HC1
  rw [← hevery] at HK3 HC2
  rw [← hls] at HK3 HLI HMN hlb
  rw [← hflg] at HMF hfl
  rw [← hqu] at HK2 hfl
  clear hresp hevery hls hflg hqu ho ha hve hki hr0 hr1 hl hlu hlm eu hr
  go_enter Try.func13, Try.ntmps13
  go_upto_region 1 with (fail)
  generalize w.alloc (.cells (tkC t us ur).toArray 29) = W at H0 ⊢
  go_region_held3 (fun W => W.cell? ⟨w.heap.size, 3, none⟩ = some (.int .i64 resp) ∧ row? W w.heap.size 4 17 = some A ∧ TB w W t us ur) (first | assumption | exact HK1.out _ H0.out | exact HK1.out _ (H0.out.drewN 1)) (first
    | (go_at_call 44; (with_reducible refine (HBY.out _).mono ?_); rintro x w3 ⟨rfl, hb3⟩; have hk := HK1.out _ (TB.keep (And.right (And.right (by assumption))) hb3); clear hb3))
  have HB1 := Lib.hid hk.2.2
  clear hk
  obtain ⟨d1, d2, d3, d4, d5⟩ := HK2.out _ HB1.out
  cases qu with
  | true =>
    have hfl2 : fl = r + 8 := hfl
    subst hfl2
    clear hfl
    rw [show ((r + 8 : Nat) : Int) = (r : Int) + 8 by omega] at HMF
    go_upto_region 20 with (go_at_call 47; (with_reducible refine (HC1.out _).mono ?_); rintro x w4 ⟨rfl, rfl⟩)
    clear d1 d2 d3 d4 d5
    go_region_held3 (fun W => W.cell? ⟨w.heap.size, 23, none⟩ = some (.int .i64 every) ∧ W.cell? ⟨w.heap.size, 24, none⟩ = some (.slice pu ls cu) ∧ TB w W t us ur) (first | assumption | exact HK3.out _ HB1.out | exact HK3.out _ (HB1.out.drewN 1)) (first
      | (go_at_call 47; (with_reducible refine (HC2.out _).mono ?_); rintro x w3 ⟨rfl, hw3⟩; subst hw3)
      | (go_at_call 45; (with_reducible refine (HMF.out _).mono ?_); rintro x w3 ⟨rfl, hb3⟩; have hk := HK3.out _ (TB.keep (And.right (And.right (by assumption))) hb3); clear hb3)
      | (go_at_call 45; (with_reducible refine (HME.out _).mono ?_); rintro x w3 ⟨rfl, hb3⟩; have hk := HK3.out _ (TB.keep (And.right (And.right (by assumption))) hb3); clear hb3)
      | (go_at_call 45; (with_reducible refine (HMN.out _).mono ?_); rintro x w3 ⟨rfl, hb3⟩; have hk := HK3.out _ (TB.keep (And.right (And.right (by assumption))) hb3); clear hb3)
      | (go_at_call 46; (with_reducible refine (HLI.out _ (And.right (And.right (by assumption)))).mono ?_); rintro x w3 ⟨rfl, hb3⟩; have hk := HK3.out _ (TB.keep (And.right (And.right (by assumption))) hb3); clear hb3))
    have HB1 := Lib.hid hk.2.2
    clear hk
    go_wp2_with (first
      | (go_at_call 45; (with_reducible refine (HM0.out _).mono ?_); rintro x w4 ⟨rfl, hb4⟩; have HB2 := Lib.hid (HB1.out.keep hb4); clear hb4)
      | (go_at_call 45; (with_reducible refine (HM1.out _).mono ?_); rintro x w5 ⟨rfl, hb5⟩; have HB3 := Lib.hid (HB2.out.keep hb5); clear hb5)
      | (go_at_call 20; (with_reducible refine (HSUM2.out _).mono ?_); rintro x w6 ⟨rfl, hw6⟩; subst hw6)
      | (go_at_call 45; (with_reducible refine (HM2.out _).mono ?_); rintro x w6 ⟨rfl, hb6⟩; have HB4 := Lib.hid (HB3.out.keep hb6); clear hb6))
    go_ret
    exact ⟨rfl, HB4.out.2⟩
  | false =>
    have hfl2 : fl = r := hfl
    subst hfl2
    clear hfl
    go_upto_region 20 with (go_at_call 47; (with_reducible refine (HC1.out _).mono ?_); rintro x w4 ⟨rfl, rfl⟩)
    clear d1 d2 d3 d4 d5
    go_region_held3 (fun W => W.cell? ⟨w.heap.size, 23, none⟩ = some (.int .i64 every) ∧ W.cell? ⟨w.heap.size, 24, none⟩ = some (.slice pu ls cu) ∧ TB w W t us ur) (first | assumption | exact HK3.out _ HB1.out | exact HK3.out _ (HB1.out.drewN 1)) (first
      | (go_at_call 47; (with_reducible refine (HC2.out _).mono ?_); rintro x w3 ⟨rfl, hw3⟩; subst hw3)
      | (go_at_call 45; (with_reducible refine (HMF.out _).mono ?_); rintro x w3 ⟨rfl, hb3⟩; have hk := HK3.out _ (TB.keep (And.right (And.right (by assumption))) hb3); clear hb3)
      | (go_at_call 45; (with_reducible refine (HME.out _).mono ?_); rintro x w3 ⟨rfl, hb3⟩; have hk := HK3.out _ (TB.keep (And.right (And.right (by assumption))) hb3); clear hb3)
      | (go_at_call 45; (with_reducible refine (HMN.out _).mono ?_); rintro x w3 ⟨rfl, hb3⟩; have hk := HK3.out _ (TB.keep (And.right (And.right (by assumption))) hb3); clear hb3)
      | (go_at_call 46; (with_reducible refine (HLI.out _ (And.right (And.right (by assumption)))).mono ?_); rintro x w3 ⟨rfl, hb3⟩; have hk := HK3.out _ (TB.keep (And.right (And.right (by assumption))) hb3); clear hb3))
    have HB1 := Lib.hid hk.2.2
    clear hk
    go_wp2_with (first
      | (go_at_call 45; (with_reducible refine (HM0.out _).mono ?_); rintro x w4 ⟨rfl, hb4⟩; have HB2 := Lib.hid (HB1.out.keep hb4); clear hb4)
      | (go_at_call 45; (with_reducible refine (HM1.out _).mono ?_); rintro x w5 ⟨rfl, hb5⟩; have HB3 := Lib.hid (HB2.out.keep hb5); clear hb5)
      | (go_at_call 20; (with_reducible refine (HSUM2.out _).mono ?_); rintro x w6 ⟨rfl, hw6⟩; subst hw6)
      | (go_at_call 45; (with_reducible refine (HM2.out _).mono ?_); rintro x w6 ⟨rfl, hb6⟩; have HB4 := Lib.hid (HB3.out.keep hb6); clear hb6))
    go_ret
    exact ⟨rfl, HB4.out.2⟩
end Go.Proofs.Ytchbkamjmkfikaa
