/-
  Texts joined: TkX, TkY, MdW.
-/
import Derived.Test.YtgpccgcppbdlpaaGreatMg11
import Derived.Test.YtgpccgcppbdlpaaGreatMg27
import Derived.Test.YtgpccgcppbdlpaaGreatMg13
import Derived.Test.YtgpccgcppbdlpaaGreatMqB
import Derived.Deep.RegionHeld3
import Derived.Deep.Cut
import Derived.BigQuiet
/-
  The document's own Write of layer 8: a query of version 3.
-/
namespace Go.Proofs.YtgpccgcppbdlpaaGreat
open Go.RowKit
set_option linter.unusedVariables false
set_option linter.unusedSimpArgs false
attribute [local go_sem ↓] ld_addr st_addr bld_addr ld_rec st_rec
attribute [local go_sem] ldr_addr str_addr ldr_rec str_rec

end Go.Proofs.YtgpccgcppbdlpaaGreat

/-
  The document's own Write of layer 8: a report of version 3, and any good talk.
-/
namespace Go.Proofs.YtgpccgcppbdlpaaGreat
open Go.RowKit
set_option linter.unusedVariables false
set_option linter.unusedSimpArgs false
attribute [local go_sem ↓] ld_addr st_addr bld_addr ld_rec st_rec
attribute [local go_sem] ldr_addr str_addr ldr_rec str_rec

theorem recsB_succ {l : List RC} {k : Nat} (h : k < l.length) : ((l.take (k + 1)).map recB).flatten = ((l.take k).map recB).flatten ++ recB l[k] := by
  rw [List.take_succ_eq_append_getElem h, List.map_append, List.flatten_append]
  simp
theorem recB_le {r : RC} (hg : adOk r.g) (hs : ∀ a ∈ r.src, adOk a) (hl : r.src.length ≤ 100) : (recB r).length ≤ 2000 := by
  have h1 := adB_le hg
  have h2 := listL_le hs
  unfold recB
  simp [putL_length]
  omega
theorem recsB_le {l : List RC} (h : ∀ r ∈ l, (recB r).length ≤ 2000) : ((l.map recB).flatten).length ≤ 2000 * l.length := by
  induction l with
  | nil => simp
  | cons r q ih =>
    have h1 := h r (by simp)
    have h2 := ih (fun x hx => h x (by simp [hx]))
    simp at h2 ⊢
    omega
theorem RcAt.src_ok {w : World} {b o : Nat} {r : RC} (h : RcAt w b o r) : ∀ a ∈ r.src, adOk a := by
  obtain ⟨u, h1, h2, h3, h4⟩ := h.u
  exact h4.ok

end Go.Proofs.YtgpccgcppbdlpaaGreat

/-
  The document's own Write of layer 9: talks of version 1.
-/
namespace Go.Proofs.YtgpccgcppbdlpaaGreat
open Go.RowKit
set_option linter.unusedVariables false
set_option linter.unusedSimpArgs false
attribute [local go_sem ↓] ld_addr st_addr bld_addr ld_rec st_rec
attribute [local go_sem] ldr_addr str_addr ldr_rec str_rec

/-- The talk and its addresses boxed. -/
def TB9 (w W : World) (f g : AD) (t : TK) (us ur : Value) : Prop := TkAt W w.heap.size t us ur ∧ ObjAt W (w.heap.size + 1) (adC f).toArray 24 ∧ ObjAt W (w.heap.size + 2) (adC g).toArray 24 ∧ Below w.heap.size w W
theorem TB9.keep {w W W' : World} {f g : AD} {t : TK} {us ur : Value} (h : TB9 w W f g t us ur) (hb : Below W.heap.size W W') : TB9 w W' f g t us ur := ⟨h.1.below hb, h.2.1.below hb h.2.1.lt, h.2.2.1.below hb h.2.2.1.lt, bstep h.2.2.2 hb⟩
theorem TB9.drewN {w W : World} {f g : AD} {t : TK} {us ur : Value} (h : TB9 w W f g t us ur) (n : Nat) : TB9 w (W.drewN n) f g t us ur := h.keep (bdrewN (Below.refl _ _) n)
theorem TB9.made (w : World) (f g : AD) (t : TK) (us ur : Value) (h : adOk t.g) : TB9 w (((w.alloc (.cells (tkC t us ur).toArray 28)).alloc (.cells (adC f).toArray 24)).alloc (.cells (adC g).toArray 24)) f g t us ur := by
  have s1 : (w.alloc (.cells (tkC t us ur).toArray 28)).heap.size = w.heap.size + 1 := by simp
  have s2 : ((w.alloc (.cells (tkC t us ur).toArray 28)).alloc (.cells (adC f).toArray 24)).heap.size = w.heap.size + 2 := by simp
  have k1 := (Below.refl _ (w.alloc (.cells (tkC t us ur).toArray 28))).alloc (Nat.le_refl _) (.cells (adC f).toArray 24)
  have k2 := (Below.refl _ ((w.alloc (.cells (tkC t us ur).toArray 28)).alloc (.cells (adC f).toArray 24))).alloc (Nat.le_refl _) (.cells (adC g).toArray 24)
  have h0 := TB.made w t us ur h
  have h1 := ObjAt.made (w.alloc (.cells (tkC t us ur).toArray 28)) (adC f).toArray 24
  rw [s1] at h1
  have h2 := ObjAt.made ((w.alloc (.cells (tkC t us ur).toArray 28)).alloc (.cells (adC f).toArray 24)) (adC g).toArray 24
  rw [s2] at h2
  have h3 := (h0.keep k1).keep k2
  exact ⟨h3.1, h1.below k2 h1.lt, h2, h3.2⟩
theorem TB9.rows {w W : World} {f g : AD} {t : TK} {us ur : Value} (h : TB9 w W f g t us ur) (hf : adOk f) (hg : adOk g) : row? W (w.heap.size + 1) 0 17 = some (adC f) ∧ row? W (w.heap.size + 2) 0 17 = some (adC g) :=
  ⟨obj_rowk (A := []) (M := adC f) (C := []) (by simpa using h.2.1) rfl (by simp [adC_length hf]), obj_rowk (A := []) (M := adC g) (C := []) (by simpa using h.2.2.1) rfl (by simp [adC_length hg])⟩
theorem cat_lit (Y l : List UInt8) (L : Array UInt8) (h : L.toList = l) (hb : Y.length + l.length ≤ 1000000) : ∀ w, (Op.stringOp .add (Str Y) ⟨L⟩).run Tryz.prog w = .ok (.string (Str (Y ++ l))) w := fun w => by
  have := run_cat (P := Tryz.prog) Y l (by omega) w
  rw [show (Str l) = ⟨L⟩ by rw [← h]; unfold Str; simp] at this
  exact this

set_option maxRecDepth 100000 in
set_option maxHeartbeats 4000000 in
theorem rwrite9_11 (f g : AD) (hf : adOk f) (hg : adOk g) (hv : f.1 = true) (t : TK) (us ur : Value) (w : World) (ho : adOk t.g) (P : List UInt8) (hP : P = psM f g (4 + (restM t).length)) (hve : t.ver = 1) (hki : t.kind = 1) (hr0 : 0 ≤ t.resp) (hr1 : t.resp ≤ 65535) :
    Calls Tryz.prog 12 #[.agg (tkC t us ur).toArray, .agg (adC f).toArray, .agg (adC g).toArray] w fun x w' => x = .returned (.string (Str (wrtM P t))) ∧ Below w.heap.size w w' := by
  have H0 := Lib.hid (TB9.made w f g t us ur ho)
  obtain ⟨n, hn⟩ := Int.eq_ofNat_of_zero_le hr0
  have hk : kindM t = 130 := by unfold kindM; rw [hve, hki]; rfl
  have hre : respM t = n := by unfold respM; rw [if_neg (by omega), hn]; rfl
  have hR : restM t = putL n 2 ++ [0, 0] ++ adB t.g := by unfold restM; rw [if_neg (by omega), if_neg (by omega), hre]; simp
  have HK1 : Hid (∀ W, TB9 w W f g t us ur → row? W w.heap.size 4 17 = some (adC t.g) ∧ TB9 w W f g t us ur) := Lib.hid fun W h => ⟨h.1.rg, h⟩
  have HK2 : Hid (∀ W, TB9 w W f g t us ur → W.cell? ⟨w.heap.size, 1, none⟩ = some (.int .i64 1) ∧ W.cell? ⟨w.heap.size, 2, none⟩ = some (.int .i64 1) ∧ W.cell? ⟨w.heap.size, 3, none⟩ = some (.int .i64 n)) := Lib.hid fun W h => by
    have h1 := h.1.ver; have h2 := h.1.kind; have h3 := h.1.resp
    rw [hve] at h1; rw [hki] at h2; rw [hn] at h3
    exact ⟨h1, h2, h3⟩
  have HBY : Hid (∀ W, Calls Tryz.prog 49 #[.agg (adC t.g).toArray] W fun e w' => e = .returned (.string (Str (adB t.g))) ∧ Below W.heap.size W w') := Lib.hid fun W => rbytes_any t.g.1 t.g.2 ho W
  have hBG := adB_le ho
  have HM1 : Hid (∀ W, Calls Tryz.prog 48 #[.int .i64 n, .int .i64 2] W fun x w' => x = .returned (.string (Str (putL n 2))) ∧ Below W.heap.size W w') := Lib.hid fun W => rnum9_any n (by omega) 2 (by omega) W
  have zn := putL_length n 2
  have q1 := cat_lit (putL n 2) [0, 0] #[0, 0] rfl (by simp; omega)
  have q2 := run_cat (P := Tryz.prog) (putL n 2 ++ [0, 0]) (adB t.g) (by simp; omega)
  rw [← hR] at q2
  have hB : (restM t).length ≤ 500000 := by rw [hR]; simp; omega
  clear hR hre
  generalize putL n 2 ++ [0, 0] = C1 at *
  generalize putL n 2 = xn at *
  generalize adC t.g = A at *
  generalize adB t.g = BG at *
  have HM0 : Hid (∀ W, Calls Tryz.prog 48 #[.int .i64 130, .int .i64 1] W fun x w' => x = .returned (.string (Str (putL 130 1))) ∧ Below W.heap.size W w') := Lib.hid fun W => rnum9_any 130 (by omega) 1 (by omega) W
  have hW : wrtM P t = (putL 130 1 ++ [0]) ++ (putL (65535 - foldN (wsum (P ++ ((putL 130 1 ++ [0]) ++ restM t)))) 2 ++ restM t) := by unfold wrtM chkM headM; rw [hk]
  have z0 := putL_length 130 1
  have c1 := cat_lit (putL 130 1) [0] #[0] rfl (by simp; omega)
  have zH : (putL 130 1 ++ [(0 : UInt8)]).length = 2 := by rw [List.length_append, z0]; rfl
  have hPl := psM_length hf hg (4 + (restM t).length)
  rw [← hP] at hPl
  have HPS : Hid (∀ W, Calls Tryz.prog 51 #[.agg (adC f).toArray, .agg (adC g).toArray, .int .i64 58, .int .i64 (4 + ((restM t).length : Int))] W fun x w' => x = .returned (.string (Str P)) ∧ Below W.heap.size W w') := Lib.hid fun W => by
    have := rps9_any f g hf hg hv (4 + (restM t).length) (by omega) W
    rw [← hP, show ((4 + (restM t).length : Nat) : Int) = 4 + ((restM t).length : Int) by omega] at this; exact this
  have hwl : IntKind.i64.wrap (4 + ((restM t).length : Int)) = 4 + ((restM t).length : Int) := by simp only [IntKind.wrap_i64]; omega
  have hsB := Str_size (restM t)
  have HROW := Lib.hid (fun W (h : TB9 w W f g t us ur) => h.rows hf hg)
  clear hk hP
  generalize putL 130 1 ++ [0] = H at c1 hW zH
  generalize putL 130 1 = x0 at *
  generalize restM t = B at *
  have p1 := run_cat (P := Tryz.prog) P H (by omega)
  have p2 := run_cat (P := Tryz.prog) (P ++ H) B (by simp; omega)
  rw [← List.append_assoc P H B] at hW
  have hfs := foldN_le16 (wsum (P ++ H ++ B))
  have HSUM := Lib.hid (fun W => (rsum_any (P ++ H ++ B) (by simp; omega) W).mono fun _ _ h => (show _ ∧ _ = _ from ⟨h.1, h.2.symm⟩))
  obtain ⟨fs, hfe⟩ : ∃ x, x = foldN (wsum (P ++ H ++ B)) := ⟨_, rfl⟩
  rw [← hfe] at hfs hW
  have HSUM2 : Hid (∀ W, Calls Tryz.prog 52 #[.string (Str (P ++ H ++ B))] W fun e w' => e = .returned (.int .i64 fs) ∧ w' = W) := Lib.hid fun W => by rw [hfe]; exact HSUM.out W
  clear HSUM hfe
  have hws : IntKind.i64.wrap (65535 - (fs : Int)) = 65535 - (fs : Int) := by simp only [IntKind.wrap_i64]; omega
  have HM2 : Hid (∀ W, Calls Tryz.prog 48 #[.int .i64 (65535 - (fs : Int)), .int .i64 2] W fun x w' => x = .returned (.string (Str (putL (65535 - fs) 2))) ∧ Below W.heap.size W w') := Lib.hid fun W => by
    have := rnum9_any (65535 - fs) (by omega) 2 (by omega) W
    rw [show ((65535 - fs : Nat) : Int) = 65535 - (fs : Int) by omega] at this; exact this
  have z2 := putL_length (65535 - fs) 2
  generalize putL (65535 - fs) 2 = x2 at HM2 hW z2
  generalize P ++ H ++ B = PB at HSUM2 p2
  generalize P ++ H = PH at p1 p2
  have k2 := run_cat (P := Tryz.prog) H x2 (by omega)
  have k3 := run_cat (P := Tryz.prog) (H ++ x2) B (by simp; omega)
  rw [List.append_assoc, ← hW] at k3
  generalize H ++ x2 = HX at k2 k3
  generalize wrtM P t = WR at hW k3 ⊢
  clear hW z2 z0 zH hPl hf hg hv
  clear ho hve hki hr0 hr1 hn zn hBG
  go_enter Tryz.func12, Tryz.ntmps12
  go_upto_region 1 with (fail)
  generalize ((w.alloc (.cells (tkC t us ur).toArray 28)).alloc (.cells (adC f).toArray 24)).alloc (.cells (adC g).toArray 24) = W at H0 ⊢
  obtain ⟨d1, d2, d3⟩ := HK2.out _ H0.out
  go_upto_region 12 with (fail)
  clear d1 d2 d3
  go_region_held3 (fun W => row? W w.heap.size 4 17 = some A ∧ TB9 w W f g t us ur) (first | assumption | exact HK1.out _ H0.out | exact HK1.out _ (H0.out.drewN 1)) (first
    | (go_at_call 49; (with_reducible refine (HBY.out _).mono ?_); rintro x w3 ⟨rfl, hb3⟩; have hk := HK1.out _ (TB9.keep (And.right (by assumption)) hb3); clear hb3)
    | (go_at_call 48; (with_reducible refine (HM1.out _).mono ?_); rintro x w3 ⟨rfl, hb3⟩; have hk := HK1.out _ (TB9.keep (And.right (by assumption)) hb3); clear hb3))
  have HB1 := Lib.hid hk.2
  clear hk
  obtain ⟨d1, d2, d3⟩ := HK2.out _ HB1.out
  go_upto_region 20 with (fail)
  clear d1 d2 d3
  go_wp2_with (first
    | (go_at_call 48; (with_reducible refine (HM0.out _).mono ?_); rintro x v4 ⟨rfl, hb4⟩; have HC2 := Lib.hid (HB1.out.keep hb4); clear hb4; obtain ⟨r1, r2⟩ := HROW.out _ HC2.out)
    | (go_at_call 51; (with_reducible refine (HPS.out _).mono ?_); rintro x v5 ⟨rfl, hb5⟩; have HC3 := Lib.hid (HC2.out.keep hb5); clear hb5)
    | (go_at_call 52; (with_reducible refine (HSUM2.out _).mono ?_); rintro x v6 ⟨rfl, hw6⟩; subst hw6)
    | (go_at_call 48; (with_reducible refine (HM2.out _).mono ?_); rintro x v7 ⟨rfl, hb7⟩; have HC4 := Lib.hid (HC3.out.keep hb7); clear hb7))
  go_ret
  exact ⟨rfl, HC4.out.2.2.2⟩

set_option maxRecDepth 100000 in
set_option maxHeartbeats 4000000 in
theorem rwrite9_12 (f g : AD) (hf : adOk f) (hg : adOk g) (hv : f.1 = true) (t : TK) (us ur : Value) (w : World) (ho : adOk t.g) (P : List UInt8) (hP : P = psM f g (4 + (restM t).length)) (hve : t.ver = 1) (hki : t.kind = 2) (hr0 : 0 ≤ t.resp) (hr1 : t.resp ≤ 65535) :
    Calls Tryz.prog 12 #[.agg (tkC t us ur).toArray, .agg (adC f).toArray, .agg (adC g).toArray] w fun x w' => x = .returned (.string (Str (wrtM P t))) ∧ Below w.heap.size w w' := by
  have H0 := Lib.hid (TB9.made w f g t us ur ho)
  obtain ⟨n, hn⟩ := Int.eq_ofNat_of_zero_le hr0
  have hk : kindM t = 131 := by unfold kindM; rw [hve, hki]; rfl
  have hre : respM t = n := by unfold respM; rw [if_neg (by omega), hn]; rfl
  have hR : restM t = putL n 2 ++ [0, 0] ++ adB t.g := by unfold restM; rw [if_neg (by omega), if_neg (by omega), hre]; simp
  have HK1 : Hid (∀ W, TB9 w W f g t us ur → row? W w.heap.size 4 17 = some (adC t.g) ∧ TB9 w W f g t us ur) := Lib.hid fun W h => ⟨h.1.rg, h⟩
  have HK2 : Hid (∀ W, TB9 w W f g t us ur → W.cell? ⟨w.heap.size, 1, none⟩ = some (.int .i64 1) ∧ W.cell? ⟨w.heap.size, 2, none⟩ = some (.int .i64 2) ∧ W.cell? ⟨w.heap.size, 3, none⟩ = some (.int .i64 n)) := Lib.hid fun W h => by
    have h1 := h.1.ver; have h2 := h.1.kind; have h3 := h.1.resp
    rw [hve] at h1; rw [hki] at h2; rw [hn] at h3
    exact ⟨h1, h2, h3⟩
  have HBY : Hid (∀ W, Calls Tryz.prog 49 #[.agg (adC t.g).toArray] W fun e w' => e = .returned (.string (Str (adB t.g))) ∧ Below W.heap.size W w') := Lib.hid fun W => rbytes_any t.g.1 t.g.2 ho W
  have hBG := adB_le ho
  have HM1 : Hid (∀ W, Calls Tryz.prog 48 #[.int .i64 n, .int .i64 2] W fun x w' => x = .returned (.string (Str (putL n 2))) ∧ Below W.heap.size W w') := Lib.hid fun W => rnum9_any n (by omega) 2 (by omega) W
  have zn := putL_length n 2
  have q1 := cat_lit (putL n 2) [0, 0] #[0, 0] rfl (by simp; omega)
  have q2 := run_cat (P := Tryz.prog) (putL n 2 ++ [0, 0]) (adB t.g) (by simp; omega)
  rw [← hR] at q2
  have hB : (restM t).length ≤ 500000 := by rw [hR]; simp; omega
  clear hR hre
  generalize putL n 2 ++ [0, 0] = C1 at *
  generalize putL n 2 = xn at *
  generalize adC t.g = A at *
  generalize adB t.g = BG at *
  have HM0 : Hid (∀ W, Calls Tryz.prog 48 #[.int .i64 131, .int .i64 1] W fun x w' => x = .returned (.string (Str (putL 131 1))) ∧ Below W.heap.size W w') := Lib.hid fun W => rnum9_any 131 (by omega) 1 (by omega) W
  have hW : wrtM P t = (putL 131 1 ++ [0]) ++ (putL (65535 - foldN (wsum (P ++ ((putL 131 1 ++ [0]) ++ restM t)))) 2 ++ restM t) := by unfold wrtM chkM headM; rw [hk]
  have z0 := putL_length 131 1
  have c1 := cat_lit (putL 131 1) [0] #[0] rfl (by simp; omega)
  have zH : (putL 131 1 ++ [(0 : UInt8)]).length = 2 := by rw [List.length_append, z0]; rfl
  have hPl := psM_length hf hg (4 + (restM t).length)
  rw [← hP] at hPl
  have HPS : Hid (∀ W, Calls Tryz.prog 51 #[.agg (adC f).toArray, .agg (adC g).toArray, .int .i64 58, .int .i64 (4 + ((restM t).length : Int))] W fun x w' => x = .returned (.string (Str P)) ∧ Below W.heap.size W w') := Lib.hid fun W => by
    have := rps9_any f g hf hg hv (4 + (restM t).length) (by omega) W
    rw [← hP, show ((4 + (restM t).length : Nat) : Int) = 4 + ((restM t).length : Int) by omega] at this; exact this
  have hwl : IntKind.i64.wrap (4 + ((restM t).length : Int)) = 4 + ((restM t).length : Int) := by simp only [IntKind.wrap_i64]; omega
  have hsB := Str_size (restM t)
  have HROW := Lib.hid (fun W (h : TB9 w W f g t us ur) => h.rows hf hg)
  clear hk hP
  generalize putL 131 1 ++ [0] = H at c1 hW zH
  generalize putL 131 1 = x0 at *
  generalize restM t = B at *
  have p1 := run_cat (P := Tryz.prog) P H (by omega)
  have p2 := run_cat (P := Tryz.prog) (P ++ H) B (by simp; omega)
  rw [← List.append_assoc P H B] at hW
  have hfs := foldN_le16 (wsum (P ++ H ++ B))
  have HSUM := Lib.hid (fun W => (rsum_any (P ++ H ++ B) (by simp; omega) W).mono fun _ _ h => (show _ ∧ _ = _ from ⟨h.1, h.2.symm⟩))
  obtain ⟨fs, hfe⟩ : ∃ x, x = foldN (wsum (P ++ H ++ B)) := ⟨_, rfl⟩
  rw [← hfe] at hfs hW
  have HSUM2 : Hid (∀ W, Calls Tryz.prog 52 #[.string (Str (P ++ H ++ B))] W fun e w' => e = .returned (.int .i64 fs) ∧ w' = W) := Lib.hid fun W => by rw [hfe]; exact HSUM.out W
  clear HSUM hfe
  have hws : IntKind.i64.wrap (65535 - (fs : Int)) = 65535 - (fs : Int) := by simp only [IntKind.wrap_i64]; omega
  have HM2 : Hid (∀ W, Calls Tryz.prog 48 #[.int .i64 (65535 - (fs : Int)), .int .i64 2] W fun x w' => x = .returned (.string (Str (putL (65535 - fs) 2))) ∧ Below W.heap.size W w') := Lib.hid fun W => by
    have := rnum9_any (65535 - fs) (by omega) 2 (by omega) W
    rw [show ((65535 - fs : Nat) : Int) = 65535 - (fs : Int) by omega] at this; exact this
  have z2 := putL_length (65535 - fs) 2
  generalize putL (65535 - fs) 2 = x2 at HM2 hW z2
  generalize P ++ H ++ B = PB at HSUM2 p2
  generalize P ++ H = PH at p1 p2
  have k2 := run_cat (P := Tryz.prog) H x2 (by omega)
  have k3 := run_cat (P := Tryz.prog) (H ++ x2) B (by simp; omega)
  rw [List.append_assoc, ← hW] at k3
  generalize H ++ x2 = HX at k2 k3
  generalize wrtM P t = WR at hW k3 ⊢
  clear hW z2 z0 zH hPl hf hg hv
  clear ho hve hki hr0 hr1 hn zn hBG
  go_enter Tryz.func12, Tryz.ntmps12
  go_upto_region 1 with (fail)
  generalize ((w.alloc (.cells (tkC t us ur).toArray 28)).alloc (.cells (adC f).toArray 24)).alloc (.cells (adC g).toArray 24) = W at H0 ⊢
  obtain ⟨d1, d2, d3⟩ := HK2.out _ H0.out
  go_upto_region 12 with (fail)
  clear d1 d2 d3
  go_region_held3 (fun W => row? W w.heap.size 4 17 = some A ∧ TB9 w W f g t us ur) (first | assumption | exact HK1.out _ H0.out | exact HK1.out _ (H0.out.drewN 1)) (first
    | (go_at_call 49; (with_reducible refine (HBY.out _).mono ?_); rintro x w3 ⟨rfl, hb3⟩; have hk := HK1.out _ (TB9.keep (And.right (by assumption)) hb3); clear hb3)
    | (go_at_call 48; (with_reducible refine (HM1.out _).mono ?_); rintro x w3 ⟨rfl, hb3⟩; have hk := HK1.out _ (TB9.keep (And.right (by assumption)) hb3); clear hb3))
  have HB1 := Lib.hid hk.2
  clear hk
  obtain ⟨d1, d2, d3⟩ := HK2.out _ HB1.out
  go_upto_region 20 with (fail)
  clear d1 d2 d3
  go_wp2_with (first
    | (go_at_call 48; (with_reducible refine (HM0.out _).mono ?_); rintro x v4 ⟨rfl, hb4⟩; have HC2 := Lib.hid (HB1.out.keep hb4); clear hb4; obtain ⟨r1, r2⟩ := HROW.out _ HC2.out)
    | (go_at_call 51; (with_reducible refine (HPS.out _).mono ?_); rintro x v5 ⟨rfl, hb5⟩; have HC3 := Lib.hid (HC2.out.keep hb5); clear hb5)
    | (go_at_call 52; (with_reducible refine (HSUM2.out _).mono ?_); rintro x v6 ⟨rfl, hw6⟩; subst hw6)
    | (go_at_call 48; (with_reducible refine (HM2.out _).mono ?_); rintro x v7 ⟨rfl, hb7⟩; have HC4 := Lib.hid (HC3.out.keep hb7); clear hb7))
  go_ret
  exact ⟨rfl, HC4.out.2.2.2⟩

set_option maxRecDepth 100000 in
set_option maxHeartbeats 4000000 in
theorem rwrite9_13 (f g : AD) (hf : adOk f) (hg : adOk g) (hv : f.1 = true) (t : TK) (us ur : Value) (w : World) (ho : adOk t.g) (P : List UInt8) (hP : P = psM f g (4 + (restM t).length)) (hve : t.ver = 1) (hki : t.kind = 3) (hr0 : 0 ≤ t.resp) (hr1 : t.resp ≤ 65535) :
    Calls Tryz.prog 12 #[.agg (tkC t us ur).toArray, .agg (adC f).toArray, .agg (adC g).toArray] w fun x w' => x = .returned (.string (Str (wrtM P t))) ∧ Below w.heap.size w w' := by
  have H0 := Lib.hid (TB9.made w f g t us ur ho)
  obtain ⟨n, hn⟩ := Int.eq_ofNat_of_zero_le hr0
  have hk : kindM t = 132 := by unfold kindM; rw [hve, hki]; rfl
  have hre : respM t = n := by unfold respM; rw [if_neg (by omega), hn]; rfl
  have hR : restM t = putL n 2 ++ [0, 0] ++ adB t.g := by unfold restM; rw [if_neg (by omega), if_neg (by omega), hre]; simp
  have HK1 : Hid (∀ W, TB9 w W f g t us ur → row? W w.heap.size 4 17 = some (adC t.g) ∧ TB9 w W f g t us ur) := Lib.hid fun W h => ⟨h.1.rg, h⟩
  have HK2 : Hid (∀ W, TB9 w W f g t us ur → W.cell? ⟨w.heap.size, 1, none⟩ = some (.int .i64 1) ∧ W.cell? ⟨w.heap.size, 2, none⟩ = some (.int .i64 3) ∧ W.cell? ⟨w.heap.size, 3, none⟩ = some (.int .i64 n)) := Lib.hid fun W h => by
    have h1 := h.1.ver; have h2 := h.1.kind; have h3 := h.1.resp
    rw [hve] at h1; rw [hki] at h2; rw [hn] at h3
    exact ⟨h1, h2, h3⟩
  have HBY : Hid (∀ W, Calls Tryz.prog 49 #[.agg (adC t.g).toArray] W fun e w' => e = .returned (.string (Str (adB t.g))) ∧ Below W.heap.size W w') := Lib.hid fun W => rbytes_any t.g.1 t.g.2 ho W
  have hBG := adB_le ho
  have HM1 : Hid (∀ W, Calls Tryz.prog 48 #[.int .i64 n, .int .i64 2] W fun x w' => x = .returned (.string (Str (putL n 2))) ∧ Below W.heap.size W w') := Lib.hid fun W => rnum9_any n (by omega) 2 (by omega) W
  have zn := putL_length n 2
  have q1 := cat_lit (putL n 2) [0, 0] #[0, 0] rfl (by simp; omega)
  have q2 := run_cat (P := Tryz.prog) (putL n 2 ++ [0, 0]) (adB t.g) (by simp; omega)
  rw [← hR] at q2
  have hB : (restM t).length ≤ 500000 := by rw [hR]; simp; omega
  clear hR hre
  generalize putL n 2 ++ [0, 0] = C1 at *
  generalize putL n 2 = xn at *
  generalize adC t.g = A at *
  generalize adB t.g = BG at *
  have HM0 : Hid (∀ W, Calls Tryz.prog 48 #[.int .i64 132, .int .i64 1] W fun x w' => x = .returned (.string (Str (putL 132 1))) ∧ Below W.heap.size W w') := Lib.hid fun W => rnum9_any 132 (by omega) 1 (by omega) W
  have hW : wrtM P t = (putL 132 1 ++ [0]) ++ (putL (65535 - foldN (wsum (P ++ ((putL 132 1 ++ [0]) ++ restM t)))) 2 ++ restM t) := by unfold wrtM chkM headM; rw [hk]
  have z0 := putL_length 132 1
  have c1 := cat_lit (putL 132 1) [0] #[0] rfl (by simp; omega)
  have zH : (putL 132 1 ++ [(0 : UInt8)]).length = 2 := by rw [List.length_append, z0]; rfl
  have hPl := psM_length hf hg (4 + (restM t).length)
  rw [← hP] at hPl
  have HPS : Hid (∀ W, Calls Tryz.prog 51 #[.agg (adC f).toArray, .agg (adC g).toArray, .int .i64 58, .int .i64 (4 + ((restM t).length : Int))] W fun x w' => x = .returned (.string (Str P)) ∧ Below W.heap.size W w') := Lib.hid fun W => by
    have := rps9_any f g hf hg hv (4 + (restM t).length) (by omega) W
    rw [← hP, show ((4 + (restM t).length : Nat) : Int) = 4 + ((restM t).length : Int) by omega] at this; exact this
  have hwl : IntKind.i64.wrap (4 + ((restM t).length : Int)) = 4 + ((restM t).length : Int) := by simp only [IntKind.wrap_i64]; omega
  have hsB := Str_size (restM t)
  have HROW := Lib.hid (fun W (h : TB9 w W f g t us ur) => h.rows hf hg)
  clear hk hP
  generalize putL 132 1 ++ [0] = H at c1 hW zH
  generalize putL 132 1 = x0 at *
  generalize restM t = B at *
  have p1 := run_cat (P := Tryz.prog) P H (by omega)
  have p2 := run_cat (P := Tryz.prog) (P ++ H) B (by simp; omega)
  rw [← List.append_assoc P H B] at hW
  have hfs := foldN_le16 (wsum (P ++ H ++ B))
  have HSUM := Lib.hid (fun W => (rsum_any (P ++ H ++ B) (by simp; omega) W).mono fun _ _ h => (show _ ∧ _ = _ from ⟨h.1, h.2.symm⟩))
  obtain ⟨fs, hfe⟩ : ∃ x, x = foldN (wsum (P ++ H ++ B)) := ⟨_, rfl⟩
  rw [← hfe] at hfs hW
  have HSUM2 : Hid (∀ W, Calls Tryz.prog 52 #[.string (Str (P ++ H ++ B))] W fun e w' => e = .returned (.int .i64 fs) ∧ w' = W) := Lib.hid fun W => by rw [hfe]; exact HSUM.out W
  clear HSUM hfe
  have hws : IntKind.i64.wrap (65535 - (fs : Int)) = 65535 - (fs : Int) := by simp only [IntKind.wrap_i64]; omega
  have HM2 : Hid (∀ W, Calls Tryz.prog 48 #[.int .i64 (65535 - (fs : Int)), .int .i64 2] W fun x w' => x = .returned (.string (Str (putL (65535 - fs) 2))) ∧ Below W.heap.size W w') := Lib.hid fun W => by
    have := rnum9_any (65535 - fs) (by omega) 2 (by omega) W
    rw [show ((65535 - fs : Nat) : Int) = 65535 - (fs : Int) by omega] at this; exact this
  have z2 := putL_length (65535 - fs) 2
  generalize putL (65535 - fs) 2 = x2 at HM2 hW z2
  generalize P ++ H ++ B = PB at HSUM2 p2
  generalize P ++ H = PH at p1 p2
  have k2 := run_cat (P := Tryz.prog) H x2 (by omega)
  have k3 := run_cat (P := Tryz.prog) (H ++ x2) B (by simp; omega)
  rw [List.append_assoc, ← hW] at k3
  generalize H ++ x2 = HX at k2 k3
  generalize wrtM P t = WR at hW k3 ⊢
  clear hW z2 z0 zH hPl hf hg hv
  clear ho hve hki hr0 hr1 hn zn hBG
  go_enter Tryz.func12, Tryz.ntmps12
  go_upto_region 1 with (fail)
  generalize ((w.alloc (.cells (tkC t us ur).toArray 28)).alloc (.cells (adC f).toArray 24)).alloc (.cells (adC g).toArray 24) = W at H0 ⊢
  obtain ⟨d1, d2, d3⟩ := HK2.out _ H0.out
  go_upto_region 12 with (fail)
  clear d1 d2 d3
  go_region_held3 (fun W => row? W w.heap.size 4 17 = some A ∧ TB9 w W f g t us ur) (first | assumption | exact HK1.out _ H0.out | exact HK1.out _ (H0.out.drewN 1)) (first
    | (go_at_call 49; (with_reducible refine (HBY.out _).mono ?_); rintro x w3 ⟨rfl, hb3⟩; have hk := HK1.out _ (TB9.keep (And.right (by assumption)) hb3); clear hb3)
    | (go_at_call 48; (with_reducible refine (HM1.out _).mono ?_); rintro x w3 ⟨rfl, hb3⟩; have hk := HK1.out _ (TB9.keep (And.right (by assumption)) hb3); clear hb3))
  have HB1 := Lib.hid hk.2
  clear hk
  obtain ⟨d1, d2, d3⟩ := HK2.out _ HB1.out
  go_upto_region 20 with (fail)
  clear d1 d2 d3
  go_wp2_with (first
    | (go_at_call 48; (with_reducible refine (HM0.out _).mono ?_); rintro x v4 ⟨rfl, hb4⟩; have HC2 := Lib.hid (HB1.out.keep hb4); clear hb4; obtain ⟨r1, r2⟩ := HROW.out _ HC2.out)
    | (go_at_call 51; (with_reducible refine (HPS.out _).mono ?_); rintro x v5 ⟨rfl, hb5⟩; have HC3 := Lib.hid (HC2.out.keep hb5); clear hb5)
    | (go_at_call 52; (with_reducible refine (HSUM2.out _).mono ?_); rintro x v6 ⟨rfl, hw6⟩; subst hw6)
    | (go_at_call 48; (with_reducible refine (HM2.out _).mono ?_); rintro x v7 ⟨rfl, hb7⟩; have HC4 := Lib.hid (HC3.out.keep hb7); clear hb7))
  go_ret
  exact ⟨rfl, HC4.out.2.2.2⟩
end Go.Proofs.YtgpccgcppbdlpaaGreat

