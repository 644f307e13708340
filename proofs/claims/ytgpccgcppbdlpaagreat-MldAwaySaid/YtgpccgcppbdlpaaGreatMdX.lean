/-
  The document's own Write of layer 9: a query of version 2.
-/
import Derived.Test.YtgpccgcppbdlpaaGreatMg32
import Derived.Deep.RegionHeld3
import Derived.Deep.Cut
import Derived.BigQuiet
namespace Go.Proofs.YtgpccgcppbdlpaaGreat
open Go.RowKit
set_option linter.unusedVariables false
set_option linter.unusedSimpArgs false
attribute [local go_sem ↓] ld_addr st_addr bld_addr ld_rec st_rec
attribute [local go_sem] ldr_addr str_addr ldr_rec str_rec


set_option maxRecDepth 100000 in
set_option maxHeartbeats 4000000 in
theorem rwrite9_21 (f g : AD) (hf : adOk f) (hg : adOk g) (hv : f.1 = true) (t : TK) (us ur : Value) (w : World) (ho : adOk t.g) (P : List UInt8) (hP : P = psM f g (4 + (restM t).length)) (ha : Ads w us t.src) (hve : t.ver = 2) (hki : t.kind = 1) (hr0 : 0 ≤ t.rob) (hr1 : t.rob ≤ 100) (hl : t.src.length ≤ 100) :
    Calls Tryz.prog 12 #[.agg (tkC t us ur).toArray, .agg (adC f).toArray, .agg (adC g).toArray] w fun x w' => x = .returned (.string (Str (wrtM P t))) ∧ Below w.heap.size w w' := by
  have H0 := Lib.hid (TB9.made w f g t us ur ho)
  obtain ⟨r, hr⟩ := Int.eq_ofNat_of_zero_le hr0
  have hk : kindM t = 130 := by unfold kindM; rw [hve, hki]; rfl
  have hre : respM t = codeN t.resp 4096 65535 := by unfold respM; rw [if_pos ⟨hki, hve⟩]
  have hfl : flagT t = if t.quiet then r + 8 else r := by unfold flagT; rw [hr]; rfl
  have hR : restM t = putL (codeN t.resp 4096 65535) 2 ++ [0, 0] ++ adB t.g ++ putL (flagT t) 1 ++ putL (codeN t.every 16 255) 1 ++ putL t.src.length 2 ++ listL t.src := by unfold restM; rw [if_neg (by omega), if_pos ⟨hki, hve⟩, hre]; simp
  have HK1 : Hid (∀ W, TB9 w W f g t us ur → row? W w.heap.size 4 17 = some (adC t.g) ∧ TB9 w W f g t us ur) := Lib.hid fun W h => ⟨h.1.rg, h⟩
  have HK2 : Hid (∀ W, TB9 w W f g t us ur → W.cell? ⟨w.heap.size, 1, none⟩ = some (.int .i64 2) ∧ W.cell? ⟨w.heap.size, 2, none⟩ = some (.int .i64 1) ∧ W.cell? ⟨w.heap.size, 3, none⟩ = some (.int .i64 t.resp) ∧ W.cell? ⟨w.heap.size, 21, none⟩ = some (.bool t.quiet) ∧ W.cell? ⟨w.heap.size, 22, none⟩ = some (.int .i64 r)) := Lib.hid fun W h => by
    have h1 := h.1.ver; have h2 := h.1.kind; have h3 := h.1.rob
    rw [hve] at h1; rw [hki] at h2; rw [hr] at h3
    exact ⟨h1, h2, h.1.resp, h.1.quiet, h3⟩
  obtain ⟨pu, cu, eu, hlu, hlm⟩ := ha.len
  have HK3 : Hid (∀ W, TB9 w W f g t us ur → W.cell? ⟨w.heap.size, 23, none⟩ = some (.int .i64 t.every) ∧ W.cell? ⟨w.heap.size, 24, none⟩ = some (.slice pu t.src.length cu) ∧ TB9 w W f g t us ur) := Lib.hid fun W h => by
    have h1 := h.1.us
    rw [eu] at h1
    exact ⟨h.1.every, h1, h⟩
  have HLI : Hid (∀ W, TB9 w W f g t us ur → Calls Tryz.prog 50 #[.slice pu t.src.length cu] W fun x w' => x = .returned (.string (Str (listL t.src))) ∧ Below W.heap.size W w') := Lib.hid fun W h => by
    have := rlist9_any us t.src W (ha.below h.2.2.2) (by omega)
    rw [eu] at this; exact this
  have HBY : Hid (∀ W, Calls Tryz.prog 49 #[.agg (adC t.g).toArray] W fun e w' => e = .returned (.string (Str (adB t.g))) ∧ Below W.heap.size W w') := Lib.hid fun W => rbytes_any t.g.1 t.g.2 ho W
  have hBG := adB_le ho
  have HC1 : Hid (∀ W, Calls Tryz.prog 39 #[.int .i64 t.resp] W fun e w' => e = .returned (.int .i64 (codeN t.resp 4096 65535)) ∧ W = w') := Lib.hid fun W => rcode16 t.resp W
  have HC2 : Hid (∀ W, Calls Tryz.prog 41 #[.int .i64 t.every] W fun e w' => e = .returned (.int .i64 (codeN t.every 16 255)) ∧ w' = W) := Lib.hid fun W => (rcode8 t.every W).mono fun _ _ h => ⟨h.1, h.2.symm⟩
  have hle1 := codeN_le t.resp 4096 65535
  have hle2 := codeN_le t.every 16 255
  have HM1 : Hid (∀ W, Calls Tryz.prog 48 #[.int .i64 (codeN t.resp 4096 65535), .int .i64 2] W fun x w' => x = .returned (.string (Str (putL (codeN t.resp 4096 65535) 2))) ∧ Below W.heap.size W w') := Lib.hid fun W => rnum9_any _ (by omega) 2 (by omega) W
  have HMF : Hid (∀ W, Calls Tryz.prog 48 #[.int .i64 (flagT t : Nat), .int .i64 1] W fun x w' => x = .returned (.string (Str (putL (flagT t) 1))) ∧ Below W.heap.size W w') := Lib.hid fun W => rnum9_any _ (by rw [hfl]; split <;> omega) 1 (by omega) W
  have HME : Hid (∀ W, Calls Tryz.prog 48 #[.int .i64 (codeN t.every 16 255), .int .i64 1] W fun x w' => x = .returned (.string (Str (putL (codeN t.every 16 255) 1))) ∧ Below W.heap.size W w') := Lib.hid fun W => rnum9_any _ (by omega) 1 (by omega) W
  have HMN : Hid (∀ W, Calls Tryz.prog 48 #[.int .i64 t.src.length, .int .i64 2] W fun x w' => x = .returned (.string (Str (putL t.src.length 2))) ∧ Below W.heap.size W w') := Lib.hid fun W => rnum9_any _ (by omega) 2 (by omega) W
  have hLL := listL_le ha.ok
  have zn := putL_length (codeN t.resp 4096 65535) 2; have zf := putL_length (flagT t) 1; have ze := putL_length (codeN t.every 16 255) 1; have zl := putL_length t.src.length 2
  have q1 := cat_lit (putL (codeN t.resp 4096 65535) 2) [0, 0] #[0, 0] rfl (by simp; omega)
  have q2 := run_cat (P := Tryz.prog) (putL (codeN t.resp 4096 65535) 2 ++ [0, 0]) (adB t.g) (by simp; omega)
  have q3 := run_cat (P := Tryz.prog) (putL (codeN t.resp 4096 65535) 2 ++ [0, 0] ++ adB t.g) (putL (flagT t) 1) (by simp; omega)
  have q4 := run_cat (P := Tryz.prog) (putL (codeN t.resp 4096 65535) 2 ++ [0, 0] ++ adB t.g ++ putL (flagT t) 1) (putL (codeN t.every 16 255) 1) (by simp; omega)
  have q5 := run_cat (P := Tryz.prog) (putL (codeN t.resp 4096 65535) 2 ++ [0, 0] ++ adB t.g ++ putL (flagT t) 1 ++ putL (codeN t.every 16 255) 1) (putL t.src.length 2) (by simp; omega)
  have q6 := run_cat (P := Tryz.prog) (putL (codeN t.resp 4096 65535) 2 ++ [0, 0] ++ adB t.g ++ putL (flagT t) 1 ++ putL (codeN t.every 16 255) 1 ++ putL t.src.length 2) (listL t.src) (by simp; omega)
  rw [← hR] at q6
  have hB : (restM t).length ≤ 500000 := by rw [hR]; simp; omega
  clear hR hre hLL
  generalize putL (codeN t.resp 4096 65535) 2 ++ [0, 0] ++ adB t.g ++ putL (flagT t) 1 ++ putL (codeN t.every 16 255) 1 ++ putL t.src.length 2 = C5 at *
  generalize putL (codeN t.resp 4096 65535) 2 ++ [0, 0] ++ adB t.g ++ putL (flagT t) 1 ++ putL (codeN t.every 16 255) 1 = C4 at *
  generalize putL (codeN t.resp 4096 65535) 2 ++ [0, 0] ++ adB t.g ++ putL (flagT t) 1 = C3 at *
  generalize putL (codeN t.resp 4096 65535) 2 ++ [0, 0] ++ adB t.g = C2 at *
  generalize putL (codeN t.resp 4096 65535) 2 ++ [0, 0] = C1 at *
  generalize putL (codeN t.resp 4096 65535) 2 = xn at *
  generalize putL (flagT t) 1 = xf at *
  generalize putL (codeN t.every 16 255) 1 = xe at *
  generalize putL t.src.length 2 = xl at *
  generalize codeN t.resp 4096 65535 = n1 at *
  generalize codeN t.every 16 255 = n2 at *
  generalize listL t.src = LS at *
  generalize adC t.g = A at *
  generalize adB t.g = BG at *
  have HM0 : Hid (∀ W, Calls Tryz.prog 48 #[.int .i64 130, .int .i64 1] W fun x w' => x = .returned (.string (Str (putL 130 1))) ∧ Below W.heap.size W w') := Lib.hid fun W => rnum9_any 130 (by omega) 1 (by omega) W
  have hW : wrtM P t = (putL 130 1 ++ [0]) ++ (putL (65535 - foldN (wsum (P ++ ((putL 130 1 ++ [0]) ++ restM t)))) 2 ++ restM t) := by unfold wrtM chkM headM; rw [hk]
  have z0 := putL_length 130 1
  have c1 := cat_lit (putL 130 1) [0] #[0] rfl (by simp; omega)
  have zH : (putL 130 1 ++ [(0 : UInt8)]).length = 2 := by rw [List.length_append, z0]; rfl
  have hPl := psM_length hf hg (4 + (restM t).length)
  rw [← hP] at hPl
  have HPS : Hid (∀ W, Calls Tryz.prog 51 #[.agg (adC f).toArray, .agg (adC g).toArray, .int .i64 58, .int .i64 (4 + ((restM t).length : Int))] W fun x w' => x = .returned (.string (Str P)) ∧ Below W.heap.size W w') := Lib.hid fun W => by
    have := rps9_any f g hf hg hv (4 + (restM t).length) (by omega) W
    rw [← hP, show ((4 + (restM t).length : Nat) : Int) = 4 + ((restM t).length : Int) by omega] at this; exact this
  have hwl : IntKind.i64.wrap (4 + ((restM t).length : Int)) = 4 + ((restM t).length : Int) := by simp only [IntKind.wrap_i64]; omega
  have hsB := Str_size (restM t)
  have HROW := Lib.hid (fun W (h : TB9 w W f g t us ur) => h.rows hf hg)
  clear hk hP
  generalize putL 130 1 ++ [0] = H at c1 hW zH
  generalize putL 130 1 = x0 at *
  generalize restM t = B at *
  have p1 := run_cat (P := Tryz.prog) P H (by omega)
  have p2 := run_cat (P := Tryz.prog) (P ++ H) B (by simp; omega)
  rw [← List.append_assoc P H B] at hW
  have hfs := foldN_le16 (wsum (P ++ H ++ B))
  have HSUM := Lib.hid (fun W => (rsum_any (P ++ H ++ B) (by simp; omega) W).mono fun _ _ h => (show _ ∧ _ = _ from ⟨h.1, h.2.symm⟩))
  obtain ⟨fs, hfe⟩ : ∃ x, x = foldN (wsum (P ++ H ++ B)) := ⟨_, rfl⟩
  rw [← hfe] at hfs hW
  have HSUM2 : Hid (∀ W, Calls Tryz.prog 52 #[.string (Str (P ++ H ++ B))] W fun e w' => e = .returned (.int .i64 fs) ∧ w' = W) := Lib.hid fun W => by rw [hfe]; exact HSUM.out W
  clear HSUM hfe
  have hws : IntKind.i64.wrap (65535 - (fs : Int)) = 65535 - (fs : Int) := by simp only [IntKind.wrap_i64]; omega
  have HM2 : Hid (∀ W, Calls Tryz.prog 48 #[.int .i64 (65535 - (fs : Int)), .int .i64 2] W fun x w' => x = .returned (.string (Str (putL (65535 - fs) 2))) ∧ Below W.heap.size W w') := Lib.hid fun W => by
    have := rnum9_any (65535 - fs) (by omega) 2 (by omega) W
    rw [show ((65535 - fs : Nat) : Int) = 65535 - (fs : Int) by omega] at this; exact this
  have z2 := putL_length (65535 - fs) 2
  generalize putL (65535 - fs) 2 = x2 at HM2 hW z2
  generalize P ++ H ++ B = PB at HSUM2 p2
  generalize P ++ H = PH at p1 p2
  have k2 := run_cat (P := Tryz.prog) H x2 (by omega)
  have k3 := run_cat (P := Tryz.prog) (H ++ x2) B (by simp; omega)
  rw [List.append_assoc, ← hW] at k3
  generalize H ++ x2 = HX at k2 k3
  generalize wrtM P t = WR at hW k3 ⊢
  clear hW z2 z0 zH hPl hf hg hv
  have hrb : r ≤ 100 := by omega
  have hwr : IntKind.i64.wrap ((r : Int) + 8) = (r : Int) + 8 := by simp only [IntKind.wrap_i64]; omega
  obtain ⟨resp, hresp⟩ : ∃ x, x = t.resp := ⟨_, rfl⟩
  obtain ⟨every, hevery⟩ : ∃ x, x = t.every := ⟨_, rfl⟩
  obtain ⟨ls, hls⟩ : ∃ x, x = t.src.length := ⟨_, rfl⟩
  obtain ⟨fl, hflg⟩ : ∃ x, x = flagT t := ⟨_, rfl⟩
  obtain ⟨qu, hqu⟩ : ∃ x, x = t.quiet := ⟨_, rfl⟩
  rw [← hresp] at HK2 HC1
  rw [← hevery] at HK3 HC2
  rw [← hls] at HK3 HLI HMN hl
  rw [← hflg] at HMF hfl
  rw [← hqu] at HK2 hfl
  clear hresp hevery hls hflg hqu ho ha hve hki hr0 hr1 hlu hlm eu hr zn zf ze zl hBG hle1 hle2
  go_enter Tryz.func12, Tryz.ntmps12
  go_upto_region 1 with (fail)
  generalize ((w.alloc (.cells (tkC t us ur).toArray 28)).alloc (.cells (adC f).toArray 24)).alloc (.cells (adC g).toArray 24) = W at H0 ⊢
  obtain ⟨d1, d2, d3, d4, d5⟩ := HK2.out _ H0.out
  go_upto_region 12 with (go_at_call 39; (with_reducible refine (HC1.out _).mono ?_); rintro x w4 ⟨rfl, rfl⟩)
  clear d1 d2 d3 d4 d5
  go_region_held3 (fun W => row? W w.heap.size 4 17 = some A ∧ TB9 w W f g t us ur) (first | assumption | exact HK1.out _ H0.out | exact HK1.out _ (H0.out.drewN 1)) (first
    | (go_at_call 49; (with_reducible refine (HBY.out _).mono ?_); rintro x w3 ⟨rfl, hb3⟩; have hk := HK1.out _ (TB9.keep (And.right (by assumption)) hb3); clear hb3)
    | (go_at_call 48; (with_reducible refine (HM1.out _).mono ?_); rintro x w3 ⟨rfl, hb3⟩; have hk := HK1.out _ (TB9.keep (And.right (by assumption)) hb3); clear hb3))
  have HB1 := Lib.hid hk.2
  clear hk
  obtain ⟨d1, d2, d3, d4, d5⟩ := HK2.out _ HB1.out
  cases qu with
  | true =>
    have hfl2 : fl = r + 8 := hfl
    subst hfl2
    clear hfl
    rw [show ((r + 8 : Nat) : Int) = (r : Int) + 8 by omega] at HMF
    go_upto_region 19 with (fail)
    clear d1 d2 d3 d4 d5
    go_region_held3 (fun W => W.cell? ⟨w.heap.size, 23, none⟩ = some (.int .i64 every) ∧ W.cell? ⟨w.heap.size, 24, none⟩ = some (.slice pu ls cu) ∧ TB9 w W f g t us ur) (first | assumption | exact HK3.out _ HB1.out | exact HK3.out _ (HB1.out.drewN 1)) (first
      | (go_at_call 41; (with_reducible refine (HC2.out _).mono ?_); rintro x w3 ⟨rfl, hw3⟩; subst hw3)
      | (go_at_call 48; (with_reducible refine (HMF.out _).mono ?_); rintro x w3 ⟨rfl, hb3⟩; have hk := HK3.out _ (TB9.keep (And.right (And.right (by assumption))) hb3); clear hb3)
      | (go_at_call 48; (with_reducible refine (HME.out _).mono ?_); rintro x w3 ⟨rfl, hb3⟩; have hk := HK3.out _ (TB9.keep (And.right (And.right (by assumption))) hb3); clear hb3)
      | (go_at_call 48; (with_reducible refine (HMN.out _).mono ?_); rintro x w3 ⟨rfl, hb3⟩; have hk := HK3.out _ (TB9.keep (And.right (And.right (by assumption))) hb3); clear hb3)
      | (go_at_call 50; (with_reducible refine (HLI.out _ (And.right (And.right (by assumption)))).mono ?_); rintro x w3 ⟨rfl, hb3⟩; have hk := HK3.out _ (TB9.keep (And.right (And.right (by assumption))) hb3); clear hb3))
    have HB2 := Lib.hid hk.2.2
    clear hk
    go_wp2_with (first
      | (go_at_call 48; (with_reducible refine (HM0.out _).mono ?_); rintro x v4 ⟨rfl, hb4⟩; have HC2 := Lib.hid (HB2.out.keep hb4); clear hb4; obtain ⟨r1, r2⟩ := HROW.out _ HC2.out)
      | (go_at_call 51; (with_reducible refine (HPS.out _).mono ?_); rintro x v5 ⟨rfl, hb5⟩; have HC3 := Lib.hid (HC2.out.keep hb5); clear hb5)
      | (go_at_call 52; (with_reducible refine (HSUM2.out _).mono ?_); rintro x v6 ⟨rfl, hw6⟩; subst hw6)
      | (go_at_call 48; (with_reducible refine (HM2.out _).mono ?_); rintro x v7 ⟨rfl, hb7⟩; have HC4 := Lib.hid (HC3.out.keep hb7); clear hb7))
    go_ret
    exact ⟨rfl, HC4.out.2.2.2⟩
  | false =>
    have hfl2 : fl = r := hfl
    subst hfl2
    clear hfl
    go_upto_region 19 with (fail)
    clear d1 d2 d3 d4 d5
    go_region_held3 (fun W => W.cell? ⟨w.heap.size, 23, none⟩ = some (.int .i64 every) ∧ W.cell? ⟨w.heap.size, 24, none⟩ = some (.slice pu ls cu) ∧ TB9 w W f g t us ur) (first | assumption | exact HK3.out _ HB1.out | exact HK3.out _ (HB1.out.drewN 1)) (first
      | (go_at_call 41; (with_reducible refine (HC2.out _).mono ?_); rintro x w3 ⟨rfl, hw3⟩; subst hw3)
      | (go_at_call 48; (with_reducible refine (HMF.out _).mono ?_); rintro x w3 ⟨rfl, hb3⟩; have hk := HK3.out _ (TB9.keep (And.right (And.right (by assumption))) hb3); clear hb3)
      | (go_at_call 48; (with_reducible refine (HME.out _).mono ?_); rintro x w3 ⟨rfl, hb3⟩; have hk := HK3.out _ (TB9.keep (And.right (And.right (by assumption))) hb3); clear hb3)
      | (go_at_call 48; (with_reducible refine (HMN.out _).mono ?_); rintro x w3 ⟨rfl, hb3⟩; have hk := HK3.out _ (TB9.keep (And.right (And.right (by assumption))) hb3); clear hb3)
      | (go_at_call 50; (with_reducible refine (HLI.out _ (And.right (And.right (by assumption)))).mono ?_); rintro x w3 ⟨rfl, hb3⟩; have hk := HK3.out _ (TB9.keep (And.right (And.right (by assumption))) hb3); clear hb3))
    have HB2 := Lib.hid hk.2.2
    clear hk
    go_wp2_with (first
      | (go_at_call 48; (with_reducible refine (HM0.out _).mono ?_); rintro x v4 ⟨rfl, hb4⟩; have HC2 := Lib.hid (HB2.out.keep hb4); clear hb4; obtain ⟨r1, r2⟩ := HROW.out _ HC2.out)
      | (go_at_call 51; (with_reducible refine (HPS.out _).mono ?_); rintro x v5 ⟨rfl, hb5⟩; have HC3 := Lib.hid (HC2.out.keep hb5); clear hb5)
      | (go_at_call 52; (with_reducible refine (HSUM2.out _).mono ?_); rintro x v6 ⟨rfl, hw6⟩; subst hw6)
      | (go_at_call 48; (with_reducible refine (HM2.out _).mono ?_); rintro x v7 ⟨rfl, hb7⟩; have HC4 := Lib.hid (HC3.out.keep hb7); clear hb7))
    go_ret
    exact ⟨rfl, HC4.out.2.2.2⟩
end Go.Proofs.YtgpccgcppbdlpaaGreat
