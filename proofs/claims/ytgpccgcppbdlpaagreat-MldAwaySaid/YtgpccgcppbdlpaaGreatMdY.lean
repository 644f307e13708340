/-
  The document's own Write of layer 9: a report of version 2, and any good talk.
-/
import Derived.Test.YtgpccgcppbdlpaaGreatMdX
import Derived.Test.YtgpccgcppbdlpaaGreatMdJ
import Derived.Deep.RegionHeld3
import Derived.Deep.Cut
import Derived.BigQuiet
namespace Go.Proofs.YtgpccgcppbdlpaaGreat
open Go.RowKit
set_option linter.unusedVariables false
set_option linter.unusedSimpArgs false
attribute [local go_sem ↓] ld_addr st_addr bld_addr ld_rec st_rec
attribute [local go_sem] ldr_addr str_addr ldr_rec str_rec


set_option maxRecDepth 100000 in
set_option maxHeartbeats 4000000 in
theorem rwrite9_22 (f g : AD) (hf : adOk f) (hg : adOk g) (hv : f.1 = true) (t : TK) (us ur : Value) (w : World) (ho : adOk t.g) (P : List UInt8) (hP : P = psM f g (4 + (restM t).length)) (ha : Rcs w ur t.rcs) (hve : t.ver = 2) (hki : t.kind = 2) (hl : t.rcs.length ≤ 100)
    (hrr : ∀ r ∈ t.rcs, 0 ≤ r.kind ∧ r.kind ≤ 255 ∧ r.src.length ≤ 100) :
    Calls Tryz.prog 12 #[.agg (tkC t us ur).toArray, .agg (adC f).toArray, .agg (adC g).toArray] w fun x w' => x = .returned (.string (Str (wrtM P t))) ∧ Below w.heap.size w w' := by
  have H0 := Lib.hid (TB9.made w f g t us ur ho)
  have hk : kindM t = 143 := by unfold kindM; rw [if_pos ⟨hki, hve⟩]
  have hR : restM t = putL t.rcs.length 4 ++ (t.rcs.map recB).flatten := by unfold restM; rw [if_pos ⟨hki, hve⟩]
  obtain ⟨pr, cr, eu, hlu, hlm⟩ := ha.len
  have HK2 : Hid (∀ W, TB9 w W f g t us ur → W.cell? ⟨w.heap.size, 1, none⟩ = some (.int .i64 2) ∧ W.cell? ⟨w.heap.size, 2, none⟩ = some (.int .i64 2) ∧ W.cell? ⟨w.heap.size, 25, none⟩ = some (.slice pr t.rcs.length cr)) := Lib.hid fun W h => by
    have h1 := h.1.ver; have h2 := h.1.kind; have h3 := h.1.ur
    rw [hve] at h1; rw [hki] at h2; rw [eu] at h3
    exact ⟨h1, h2, h3⟩
  have HK4 : Hid (∀ W, TB9 w W f g t us ur → W.cell? ⟨w.heap.size, 25, none⟩ = some (.slice pr t.rcs.length cr)) := Lib.hid fun W h => (HK2.out W h).2.2
  have HM9 : Hid (∀ W, Calls Tryz.prog 48 #[.int .i64 t.rcs.length, .int .i64 4] W fun x w' => x = .returned (.string (Str (putL t.rcs.length 4))) ∧ Below W.heap.size W w') := Lib.hid fun W => rnum9_any _ (by omega) 4 (by omega) W
  have hRA : t.rcs ≠ [] → ∃ b o, pr = some ⟨b, o, none⟩ ∧ ∀ i (h : i < t.rcs.length), RcAt w b (o + i * 19) t.rcs[i] := fun hn => by
    obtain ⟨b, o, cap, e, _, _, h3⟩ := ha.parts hn
    rw [eu] at e
    simp only [Value.slice.injEq] at e
    exact ⟨b, o, e.1, h3⟩
  have hrec : ∀ r ∈ t.rcs, (recB r).length ≤ 2000 := fun r hr => by
    obtain ⟨i, hi, rfl⟩ := List.mem_iff_getElem.1 hr
    obtain ⟨b, o, _, h3⟩ := hRA (fun h => by rw [h] at hi; exact absurd hi (by simp))
    have h4 := h3 i hi
    exact recB_le h4.1 h4.src_ok (hrr _ hr).2.2
  have HLE := Lib.hid (fun k => recsB_le (l := t.rcs.take k) (fun r hr => hrec r (List.mem_of_mem_take hr)))
  have HRR := Lib.hid hrr
  have HRA := Lib.hid hRA
  have z4 := putL_length t.rcs.length 4
  have hB : (restM t).length ≤ 500000 := by
    rw [hR]
    have := HLE.out t.rcs.length
    rw [List.take_length] at this
    simp [putL_length] at this ⊢
    omega
  clear hrr hRA hrec
  generalize putL t.rcs.length 4 = x9 at *
  have HRT := Lib.hid hR
  clear hR
  have HM0 : Hid (∀ W, Calls Tryz.prog 48 #[.int .i64 143, .int .i64 1] W fun x w' => x = .returned (.string (Str (putL 143 1))) ∧ Below W.heap.size W w') := Lib.hid fun W => rnum9_any 143 (by omega) 1 (by omega) W
  have hW : wrtM P t = (putL 143 1 ++ [0]) ++ (putL (65535 - foldN (wsum (P ++ ((putL 143 1 ++ [0]) ++ restM t)))) 2 ++ restM t) := by unfold wrtM chkM headM; rw [hk]
  have z0 := putL_length 143 1
  have c1 := cat_lit (putL 143 1) [0] #[0] rfl (by simp; omega)
  have zH : (putL 143 1 ++ [(0 : UInt8)]).length = 2 := by rw [List.length_append, z0]; rfl
  have hPl := psM_length hf hg (4 + (restM t).length)
  rw [← hP] at hPl
  have HPS : Hid (∀ W, Calls Tryz.prog 51 #[.agg (adC f).toArray, .agg (adC g).toArray, .int .i64 58, .int .i64 (4 + ((restM t).length : Int))] W fun x w' => x = .returned (.string (Str P)) ∧ Below W.heap.size W w') := Lib.hid fun W => by
    have := rps9_any f g hf hg hv (4 + (restM t).length) (by omega) W
    rw [← hP, show ((4 + (restM t).length : Nat) : Int) = 4 + ((restM t).length : Int) by omega] at this; exact this
  have hwl : IntKind.i64.wrap (4 + ((restM t).length : Int)) = 4 + ((restM t).length : Int) := by simp only [IntKind.wrap_i64]; omega
  have hsB := Str_size (restM t)
  have HROW := Lib.hid (fun W (h : TB9 w W f g t us ur) => h.rows hf hg)
  clear hk hP
  generalize putL 143 1 ++ [0] = H at c1 hW zH
  generalize putL 143 1 = x0 at *
  generalize restM t = B at *
  have p1 := run_cat (P := Tryz.prog) P H (by omega)
  have p2 := run_cat (P := Tryz.prog) (P ++ H) B (by simp; omega)
  rw [← List.append_assoc P H B] at hW
  have hfs := foldN_le16 (wsum (P ++ H ++ B))
  have HSUM := Lib.hid (fun W => (rsum_any (P ++ H ++ B) (by simp; omega) W).mono fun _ _ h => (show _ ∧ _ = _ from ⟨h.1, h.2.symm⟩))
  obtain ⟨fs, hfe⟩ : ∃ x, x = foldN (wsum (P ++ H ++ B)) := ⟨_, rfl⟩
  rw [← hfe] at hfs hW
  have HSUM2 : Hid (∀ W, Calls Tryz.prog 52 #[.string (Str (P ++ H ++ B))] W fun e w' => e = .returned (.int .i64 fs) ∧ w' = W) := Lib.hid fun W => by rw [hfe]; exact HSUM.out W
  clear HSUM hfe
  have hws : IntKind.i64.wrap (65535 - (fs : Int)) = 65535 - (fs : Int) := by simp only [IntKind.wrap_i64]; omega
  have HM2 : Hid (∀ W, Calls Tryz.prog 48 #[.int .i64 (65535 - (fs : Int)), .int .i64 2] W fun x w' => x = .returned (.string (Str (putL (65535 - fs) 2))) ∧ Below W.heap.size W w') := Lib.hid fun W => by
    have := rnum9_any (65535 - fs) (by omega) 2 (by omega) W
    rw [show ((65535 - fs : Nat) : Int) = 65535 - (fs : Int) by omega] at this; exact this
  have z2 := putL_length (65535 - fs) 2
  generalize putL (65535 - fs) 2 = x2 at HM2 hW z2
  generalize P ++ H ++ B = PB at HSUM2 p2
  generalize P ++ H = PH at p1 p2
  have k2 := run_cat (P := Tryz.prog) H x2 (by omega)
  have k3 := run_cat (P := Tryz.prog) (H ++ x2) B (by simp; omega)
  rw [List.append_assoc, ← hW] at k3
  generalize H ++ x2 = HX at k2 k3
  generalize wrtM P t = WR at hW k3 ⊢
  clear hW z2 z0 zH hPl hf hg hv
  obtain ⟨n, hn⟩ : ∃ n, n = t.rcs.length := ⟨_, rfl⟩
  have HN := Lib.hid hn
  rw [← hn] at HK2 HK4 HM9 hl
  clear hn ho ha hve hki hlu hlm eu
  go_enter Tryz.func12, Tryz.ntmps12
  go_upto_region 1 with (fail)
  generalize ((w.alloc (.cells (tkC t us ur).toArray 28)).alloc (.cells (adC f).toArray 24)).alloc (.cells (adC g).toArray 24) = W at H0 ⊢
  obtain ⟨d1, d2, d3⟩ := HK2.out _ H0.out
  go_upto_region 4 with (go_at_call 48; (with_reducible refine (HM9.out _).mono ?_); rintro x w4 ⟨rfl, hb4⟩; have HB2 := Lib.hid (H0.out.keep hb4); clear hb4 d1 d2 d3)
  clear HM9
  go_wp2_with (fail)
  go_loopw [8, 9] (fun s i wr => ∃ k : Nat, k ≤ n ∧ i = .int .i64 k ∧ s = .string (Str (x9 ++ ((t.rcs.take k).map recB).flatten)) ∧ Hid (TB9 w wr f g t us ur)) (fun _ i _ => n - (intOf i).toNat)
  case atStart => exact ⟨0, by omega, rfl, by simp, HB2⟩
  case round =>
    obtain ⟨k, hk, rfl, rfl, HB⟩ := hrel
    have d1 := HK4.out _ HB.out
    by_cases hlt : k < n
    · have g1 : k < t.rcs.length := by rw [← HN.out]; exact hlt
      obtain ⟨rb, ro, rfl, RA⟩ := HRA.out (fun h => by rw [h] at g1; exact absurd g1 (by simp))
      obtain ⟨u, hu⟩ := (RA k g1).u
      have hu2 := hu.below HB.out.2.2.2
      have r1 := hu2.2.2.1
      obtain ⟨ho, hlt2, _, ha⟩ := hu2
      clear hu
      obtain ⟨pp, cc, eu, hlu, hlm⟩ := ha.len
      subst eu
      have HBX := Lib.hid (RcU.boxed (cs := #[.int .i64 0, .bool false, .int .u8 0, .int .u8 0, .int .u8 0, .int .u8 0, .int .u8 0, .int .u8 0, .int .u8 0, .int .u8 0, .int .u8 0, .int .u8 0, .int .u8 0, .int .u8 0, .int .u8 0, .int .u8 0, .int .u8 0, .int .u8 0, .slice none 0 0]) ho ha rfl)
      have hfok := fok_rec ho ha.one
      have hfm := free_made wr #[.int .i64 0, .bool false, .int .u8 0, .int .u8 0, .int .u8 0, .int .u8 0, .int .u8 0, .int .u8 0, .int .u8 0, .int .u8 0, .int .u8 0, .int .u8 0, .int .u8 0, .int .u8 0, .int .u8 0, .int .u8 0, .int .u8 0, .int .u8 0, .slice none 0 0] 62 19 (by simp)
      obtain ⟨y0, y1, y2⟩ := HRR.out _ (List.getElem_mem g1)
      obtain ⟨K, hK⟩ := Int.eq_ofNat_of_zero_le y0
      have HGr : Hid (∀ W, Calls Tryz.prog 49 #[.agg (adC t.rcs[k].g).toArray] W fun e w' => e = .returned (.string (Str (adB t.rcs[k].g))) ∧ Below W.heap.size W w') := Lib.hid fun W => rbytes_any t.rcs[k].g.1 t.rcs[k].g.2 ho W
      have HSr := Lib.hid (fun W (h : RcU W wr.heap.size 0 t.rcs[k] (.slice pp t.rcs[k].src.length cc)) => rlist9_any (.slice pp t.rcs[k].src.length cc) t.rcs[k].src W h.2.2.2 (by omega))
      have HMK : Hid (∀ W, Calls Tryz.prog 48 #[.int .i64 t.rcs[k].kind, .int .i64 1] W fun x w' => x = .returned (.string (Str (putL K 1))) ∧ Below W.heap.size W w') := Lib.hid fun W => by
        rw [hK]; exact rnum9_any K (by omega) 1 (by omega) W
      have HML : Hid (∀ W, Calls Tryz.prog 48 #[.int .i64 t.rcs[k].src.length, .int .i64 2] W fun x w' => x = .returned (.string (Str (putL t.rcs[k].src.length 2))) ∧ Below W.heap.size W w') := Lib.hid fun W => rnum9_any _ (by omega) 2 (by omega) W
      have hRB : recB t.rcs[k] = putL K 1 ++ ([0] ++ (putL t.rcs[k].src.length 2 ++ (adB t.rcs[k].g ++ listL t.rcs[k].src))) := by unfold recB; rw [hK]; rfl
      have HS := Lib.hid (recsB_succ g1)
      have hle := HLE.out k
      rw [List.length_take, Nat.min_eq_left (by omega)] at hle
      have hb16 := adB_le ho
      have hbl := listL_le ha.ok
      have hzk := putL_length K 1
      have hzl := putL_length t.rcs[k].src.length 2
      have hy2 : t.rcs[k].src.length ≤ 100 := y2
      have hd : decide ((k : Int) < (n : Int)) = true := decide_eq_true (by omega)
      have hk1 : (k : Int) < (n : Int) := by omega
      have hw1 : IntKind.i64.wrap ((k : Int) + 1) = (k : Int) + 1 := by simp only [IntKind.wrap_i64]; omega
      obtain ⟨Y, hY⟩ : ∃ Y, Y = x9 ++ ((t.rcs.take k).map recB).flatten := ⟨_, rfl⟩
      have hYl : Y.length ≤ 300000 := by rw [hY, List.length_append, z4]; omega
      have HY2 : Hid (x9 ++ ((t.rcs.take (k + 1)).map recB).flatten = Y ++ recB t.rcs[k]) := Lib.hid (by rw [HS.out, hY, List.append_assoc])
      rw [← hY]
      clear hY HS hle RA
      obtain ⟨O, hO⟩ : ∃ O : List UInt8, O = [0] := ⟨_, rfl⟩
      have zO : O.length = 1 := by rw [hO]; rfl
      rw [← hO] at hRB
      generalize t.rcs[k] = x at *
      obtain ⟨xk, xg, xs⟩ := x
      simp only at hRB HGr HSr HMK HML hb16 hbl hzk hzl hy2 y1 hK hlu hb16 y0 y2
      have q1 := run_cat (P := Tryz.prog) Y (putL K 1) (by omega)
      have q2 : ∀ w, (Op.stringOp .add (Str (Y ++ putL K 1)) ⟨#[0]⟩).run Tryz.prog w = .ok (.string (Str (Y ++ putL K 1 ++ O))) w := fun w => by
        have := run_cat (P := Tryz.prog) (Y ++ putL K 1) [0] (by simp; omega) w
        rw [hO]; exact this
      have q3 := run_cat (P := Tryz.prog) (Y ++ putL K 1 ++ O) (putL xs.length 2) (by simp; omega)
      have q4 := run_cat (P := Tryz.prog) (Y ++ putL K 1 ++ O ++ putL xs.length 2) (adB xg) (by simp; omega)
      have q5 := run_cat (P := Tryz.prog) (Y ++ putL K 1 ++ O ++ putL xs.length 2 ++ adB xg) (listL xs) (by simp; omega)
      rw [show Y ++ putL K 1 ++ O ++ putL xs.length 2 ++ adB xg ++ listL xs = Y ++ recB ⟨xk, xg, xs⟩ by rw [hRB]; simp] at q5
      generalize Y ++ recB ⟨xk, xg, xs⟩ = Y2 at HY2 q5
      generalize Y ++ putL K 1 ++ O ++ putL xs.length 2 ++ adB xg = Y5 at q4 q5
      generalize Y ++ putL K 1 ++ O ++ putL xs.length 2 = Y4 at q3 q4
      generalize Y ++ putL K 1 ++ O = Y3 at q2 q3
      generalize Y ++ putL K 1 = Y1 at q1 q2
      generalize putL K 1 = xK at *
      generalize putL xs.length 2 = xL at *
      generalize listL xs = LS at *
      clear hRB hO zO hYl hb16 hbl hzk hzl hK y1 HRR HLE HRA
      go_upto_region 8 with (fail)
      generalize aggW (wr.alloc _) wr.heap.size _ = W1 at HBX ⊢
      have H1 := Lib.hid (show TB9 w W1 f g t us ur ∧ RcU W1 wr.heap.size 0 ⟨xk, xg, xs⟩ (.slice pp xs.length cc) from ⟨HB.out.keep HBX.out.2, HBX.out.1⟩)
      have HQ : Hid (∀ (W1 W2 : World), (TB9 w W1 f g t us ur ∧ RcU W1 wr.heap.size 0 ⟨xk, xg, xs⟩ (.slice pp xs.length cc)) → Below W1.heap.size W1 W2 → (TB9 w W2 f g t us ur ∧ RcU W2 wr.heap.size 0 ⟨xk, xg, xs⟩ (.slice pp xs.length cc))) := Lib.hid fun W1 W2 h hb => ⟨h.1.keep hb, h.2.below hb⟩
      have HKK : Hid (∀ (W1 : World), (TB9 w W1 f g t us ur ∧ RcU W1 wr.heap.size 0 ⟨xk, xg, xs⟩ (.slice pp xs.length cc)) → (W1.cell? ⟨wr.heap.size, 0, none⟩ = some (.int .i64 xk) ∧ row? W1 wr.heap.size 1 17 = some (adC xg) ∧ W1.cell? ⟨wr.heap.size, 18, none⟩ = some (.slice pp xs.length cc) ∧ (TB9 w W1 f g t us ur ∧ RcU W1 wr.heap.size 0 ⟨xk, xg, xs⟩ (.slice pp xs.length cc)))) := Lib.hid fun W1 h => by
        obtain ⟨e0, e1, e2⟩ := h.2.cells
        exact ⟨e0, by simpa using e1, by simpa using e2, h⟩
      clear HBX hfm hfok r1 d1 HB
      generalize adC xg = AX at *
      generalize adB xg = BX at *
      go_region_held3 (fun W => W.cell? ⟨wr.heap.size, 0, none⟩ = some (.int .i64 xk) ∧ row? W wr.heap.size 1 17 = some AX ∧ W.cell? ⟨wr.heap.size, 18, none⟩ = some (.slice pp xs.length cc) ∧ (TB9 w W f g t us ur ∧ RcU W wr.heap.size 0 ⟨xk, xg, xs⟩ (.slice pp xs.length cc))) (first | assumption | exact HKK.out _ H1.out | exact HKK.out _ (HQ.out _ _ H1.out (bdrewN (Below.refl _ _) 1))) (first
        | (go_at_call 49; (with_reducible refine (HGr.out _).mono ?_); rintro x w3 ⟨rfl, hb3⟩; have hk := HKK.out _ (HQ.out _ _ (And.right (And.right (And.right (by assumption)))) hb3); clear hb3)
        | (go_at_call 48; (with_reducible refine (HMK.out _).mono ?_); rintro x w3 ⟨rfl, hb3⟩; have hk := HKK.out _ (HQ.out _ _ (And.right (And.right (And.right (by assumption)))) hb3); clear hb3)
        | (go_at_call 48; (with_reducible refine (HML.out _).mono ?_); rintro x w3 ⟨rfl, hb3⟩; have hk := HKK.out _ (HQ.out _ _ (And.right (And.right (And.right (by assumption)))) hb3); clear hb3)
        | (go_at_call 50; (with_reducible refine (HSr.out _ (And.right (And.right (And.right (And.right (by assumption)))))).mono ?_); rintro x w3 ⟨rfl, hb3⟩; have hk := HKK.out _ (HQ.out _ _ (And.right (And.right (And.right (by assumption)))) hb3); clear hb3))
      have HB5 := Lib.hid hk.2.2.2.1
      clear hk
      go_wp2_with fail
      go_roundw
      case rel => exact ⟨k + 1, by omega, by go_num, by rw [HY2.out], HB5⟩
      case measure => simp [intOf]; omega
    · have hd : ¬ (k : Int) < (n : Int) := by omega
      have hY : x9 ++ ((t.rcs.take k).map recB).flatten = B := by
        rw [List.take_of_length_le (by rw [← HN.out]; omega)]; exact HRT.out.symm
      rw [hY]
      clear hY HLE HRR HRA
      go_wp2_with (first
        | (go_at_call 48; (with_reducible refine (HM0.out _).mono ?_); rintro x v4 ⟨rfl, hb4⟩; have HC2 := Lib.hid (HB.out.keep hb4); clear hb4; obtain ⟨r1, r2⟩ := HROW.out _ HC2.out)
        | (go_at_call 51; (with_reducible refine (HPS.out _).mono ?_); rintro x v5 ⟨rfl, hb5⟩; have HC3 := Lib.hid (HC2.out.keep hb5); clear hb5)
        | (go_at_call 52; (with_reducible refine (HSUM2.out _).mono ?_); rintro x v6 ⟨rfl, hw6⟩; subst hw6)
        | (go_at_call 48; (with_reducible refine (HM2.out _).mono ?_); rintro x v7 ⟨rfl, hb7⟩; have HC4 := Lib.hid (HC3.out.keep hb7); clear hb7))
      go_ret
      exact ⟨rfl, HC4.out.2.2.2⟩

theorem recOk9_parts {r : RC} (h : recOk9 r = true) : 1 ≤ r.kind ∧ r.kind ≤ 6 ∧ r.src.length < 65 := by
  unfold recOk9 rcOk9 at h
  rw [Bool.and_eq_true, Bool.and_eq_true, decide_eq_true_eq] at h
  exact ⟨h.1.1.1, h.1.1.2, srcs9_len h.2⟩
/-- A good talk's bytes. -/
theorem rwrite9_any (f g : AD) (hf : adOk f) (hg : adOk g) (hv : f.1 = true) (t : TK) (us ur : Value) (w : World) (ho : t.ok) (hs : Ads w us t.src) (hr : Rcs w ur t.rcs) (hgd : good9 t = true) :
    Calls Tryz.prog 12 #[.agg (tkC t us ur).toArray, .agg (adC f).toArray, .agg (adC g).toArray] w fun x w' => x = .returned (.string (Str (wrtM (psM f g (4 + (restM t).length)) t))) ∧ Below w.heap.size w w' := by
  obtain ⟨_, h | h | h | h⟩ := good9_cases t hgd
  · obtain ⟨a1, a2, a3, a4, a5, a6, _⟩ := h
    refine rwrite9_22 f g hf hg hv t us ur w ho.1 _ rfl hr a1 a2 (by omega) fun r hr' => ?_
    rw [List.all_eq_true] at a5
    obtain ⟨b1, b2, b3⟩ := recOk9_parts (a5 r hr')
    exact ⟨by omega, by omega, by omega⟩
  · obtain ⟨a1, a2 | a2, a3, _⟩ := h
    · exact rwrite9_12 f g hf hg hv t us ur w ho.1 _ rfl a1 a2 (by omega) (by omega)
    · exact rwrite9_13 f g hf hg hv t us ur w ho.1 _ rfl a1 a2 (by omega) (by omega)
  · obtain ⟨a1, a2, a3, a4, _⟩ := h
    exact rwrite9_11 f g hf hg hv t us ur w ho.1 _ rfl a1 a2 a3 (by omega)
  · obtain ⟨a1, a2, _, _, a5, a6, a7, _⟩ := h
    exact rwrite9_21 f g hf hg hv t us ur w ho.1 _ rfl hs a1 a2 a5 (by omega) (by have := srcs9_len a7; omega)
end Go.Proofs.YtgpccgcppbdlpaaGreat
