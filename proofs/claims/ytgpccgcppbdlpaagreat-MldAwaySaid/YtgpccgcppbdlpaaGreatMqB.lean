/-
  The document's own Read of layer 9.
-/
import Derived.Test.YtgpccgcppbdlpaaGreatMqA
import Derived.Test.YtgpccgcppbdlpaaGreatMg22
import Derived.Test.YtgpccgcppbdlpaaGreatMg30
namespace Go.Proofs.YtgpccgcppbdlpaaGreat
open Go.RowKit
set_option linter.unusedVariables false
set_option linter.unusedSimpArgs false
attribute [local go_sem ↓] ld_addr st_addr bld_addr ld_tk st_tk bld_tk
attribute [local go_sem] ldr_addr str_addr ldr_tk str_tk

/-- The pseudo header between two addresses of IPv6. -/
def psM (f g : AD) (n : Nat) : List UInt8 := pseudoL true f.2 g.2 58 n
theorem psM_length {f g : AD} (hf : adOk f) (hg : adOk g) (n : Nat) : (psM f g n).length = 40 := by
  have h1 : f.2.length = 16 := hf
  have h2 : g.2.length = 16 := hg
  simp [psM, pseudoL, putL_length, h1, h2]
theorem rps9_any (f g : AD) (hf : adOk f) (hg : adOk g) (hv : f.1 = true) (n : Nat) (hn : n ≤ 1000000) (w : World) :
    Calls Tryz.prog 51 #[.agg (adC f).toArray, .agg (adC g).toArray, .int .i64 58, .int .i64 n] w fun x w' => x = .returned (.string (Str (psM f g n))) ∧ Below w.heap.size w w' := by
  have h := rpseudo_any f.1 g.1 f.2 g.2 hf hg 58 n w
  rw [hv, Bool.true_or, show ((58 : Int) % 256).toNat = 58 from rfl, show (((n : Nat) : Int) % 18446744073709551616).toNat = n by omega] at h
  rw [show adC f = addrC true f.2 by unfold adC; rw [hv]]
  exact h
theorem one9_or (s : List UInt8) : (one9 s).2 = 0 ∨ (one9 s).1 = zeroT := by
  unfold one9
  repeat' split
  all_goals first | exact Or.inl rfl | exact Or.inr rfl
theorem one9_bad (s : List UInt8) (h : (one9 s).2 ≠ 0) : one9 s = (zeroT, (one9 s).2) := by
  rcases one9_or s with h1 | h1
  · exact absurd h1 h
  · exact Prod.ext h1 rfl
/-- What Read tells. -/
def ReadM (w : World) (P s : List UInt8) (x : Ending) (w' : World) : Prop := ∃ us ur, x = .returned (.tuple #[.agg (tkC (readM P s).1 us ur).toArray, .int .i64 (readM P s).2]) ∧ Below w.heap.size w w' ∧ adOk (readM P s).1.g ∧ AdsT w' us (readM P s).1.src ∧ RcT w' ur (readM P s).1.rcs
theorem ReadM.lift {w w1 w' : World} {P s : List UInt8} {x : Ending} (h : ReadM w1 P s x w') (hb : Below w.heap.size w w1) : ReadM w P s x w' := by
  obtain ⟨us, ur, h1, h2, h3⟩ := h
  exact ⟨us, ur, h1, bstep hb h2, h3⟩
theorem QN.ret9 {w W : World} {p : Nat} (h : QN w W p) {P s : List UInt8} {e : Int} (he : readM P s = (zeroT, e)) :
    row? (aggW W w.heap.size (tkC zeroT (.slice none 0 0) (.slice none 0 0))) w.heap.size 0 26 = some (tkC zeroT (.slice none 0 0) (.slice none 0 0)) ∧ ReadM w P s (.returned (.tuple #[.agg (tkC zeroT (.slice none 0 0) (.slice none 0 0)).toArray, .int .i64 e])) (aggW W w.heap.size (tkC zeroT (.slice none 0 0) (.slice none 0 0))) := by
  refine ⟨aggW_row h.free (tkC_length (t := zeroT) zeroA_ok _ _), _, _, by rw [he], aggW_below h.blw (Nat.le_refl _) _, by rw [he]; exact zeroA_ok, by rw [he]; exact AdsT.nil _, by rw [he]; exact RcT.nil _⟩
theorem QT.ret9 {w W : World} {m p : Nat} {t : TK} {us ur : Value} {L : Array Value} {T : TypeId} (h : QT w W m t us ur p L T) {P s : List UInt8} (he : readM P s = (t, 0)) :
    row? (aggW W w.heap.size (tkC t us ur)) w.heap.size 0 26 = some (tkC t us ur) ∧ ReadM w P s (.returned (.tuple #[.agg (tkC t us ur).toArray, .int .i64 0])) (aggW W w.heap.size (tkC t us ur)) := by
  obtain ⟨q1, q2, q3, q4⟩ := h.done
  refine ⟨q1, us, ur, by rw [he], q2, by rw [he]; exact h.tk.2, by rw [he]; exact q3, by rw [he]; exact q4⟩
/-- The two addresses boxed, then the result's cell and the zero talk. -/
theorem QN.start9 (w : World) (f g : AD) (hf : adOk f) (hg : adOk g) : ∃ w1, w1 = (w.alloc (.cells (adC f).toArray 24)).alloc (.cells (adC g).toArray 24) ∧ w1.heap.size = w.heap.size + 2 ∧ Below w.heap.size w w1 ∧
    QN w1 (aggW ((w1.alloc (.cells #[.bool false, .int .i64 0, .int .i64 0, .int .i64 0, .bool false, .int .u8 0, .int .u8 0, .int .u8 0, .int .u8 0, .int .u8 0, .int .u8 0, .int .u8 0, .int .u8 0, .int .u8 0, .int .u8 0, .int .u8 0, .int .u8 0, .int .u8 0, .int .u8 0, .int .u8 0, .int .u8 0, .bool false, .int .i64 0, .int .i64 0, .slice none 0 0, .slice none 0 0] 28)).alloc (.cells #[.bool false, .int .i64 0, .int .i64 0, .int .i64 0, .bool false, .int .u8 0, .int .u8 0, .int .u8 0, .int .u8 0, .int .u8 0, .int .u8 0, .int .u8 0, .int .u8 0, .int .u8 0, .int .u8 0, .int .u8 0, .int .u8 0, .int .u8 0, .int .u8 0, .int .u8 0, .int .u8 0, .bool false, .int .i64 0, .int .i64 0, .slice none 0 0, .slice none 0 0] 28)) (w1.heap.size + 1) (tkC zeroT (.slice none 0 0) (.slice none 0 0))) (w1.heap.size + 1) ∧
    (∀ W, Below w1.heap.size w1 W → row? W w.heap.size 0 17 = some (adC f) ∧ row? W (w.heap.size + 1) 0 17 = some (adC g)) ∧ free? ((w1.alloc (.cells #[.bool false, .int .i64 0, .int .i64 0, .int .i64 0, .bool false, .int .u8 0, .int .u8 0, .int .u8 0, .int .u8 0, .int .u8 0, .int .u8 0, .int .u8 0, .int .u8 0, .int .u8 0, .int .u8 0, .int .u8 0, .int .u8 0, .int .u8 0, .int .u8 0, .int .u8 0, .int .u8 0, .bool false, .int .i64 0, .int .i64 0, .slice none 0 0, .slice none 0 0] 28)).alloc (.cells #[.bool false, .int .i64 0, .int .i64 0, .int .i64 0, .bool false, .int .u8 0, .int .u8 0, .int .u8 0, .int .u8 0, .int .u8 0, .int .u8 0, .int .u8 0, .int .u8 0, .int .u8 0, .int .u8 0, .int .u8 0, .int .u8 0, .int .u8 0, .int .u8 0, .int .u8 0, .int .u8 0, .bool false, .int .i64 0, .int .i64 0, .slice none 0 0, .slice none 0 0] 28)) (w.heap.size + 2 + 1) 0 26 = true := by
  refine ⟨_, rfl, by simp, ((Below.refl _ _).alloc (Nat.le_refl _) _).alloc (by simp) _, ?_, ?_, ?_⟩
  · exact QN.start ((w.alloc (.cells (adC f).toArray 24)).alloc (.cells (adC g).toArray 24))
  · intro W hW
    have h1 := ObjAt.made w (adC f).toArray 24
    have h2 := ObjAt.made (w.alloc (.cells (adC f).toArray 24)) (adC g).toArray 24
    rw [show (w.alloc (.cells (adC f).toArray 24)).heap.size = w.heap.size + 1 by simp] at h2
    have h3 := (h1.alloc (.cells (adC g).toArray 24)).below hW (by simp; omega)
    have h4 := h2.below hW (by simp)
    exact ⟨obj_rowk (A := []) (M := adC f) (C := []) (by simpa using h3) rfl (by simp [adC_length hf]), obj_rowk (A := []) (M := adC g) (C := []) (by simpa using h4) rfl (by simp [adC_length hg])⟩
  · have hfm := free_made (((w.alloc (.cells (adC f).toArray 24)).alloc (.cells (adC g).toArray 24)).alloc (.cells #[.bool false, .int .i64 0, .int .i64 0, .int .i64 0, .bool false, .int .u8 0, .int .u8 0, .int .u8 0, .int .u8 0, .int .u8 0, .int .u8 0, .int .u8 0, .int .u8 0, .int .u8 0, .int .u8 0, .int .u8 0, .int .u8 0, .int .u8 0, .int .u8 0, .int .u8 0, .int .u8 0, .bool false, .int .i64 0, .int .i64 0, .slice none 0 0, .slice none 0 0] 28)) #[.bool false, .int .i64 0, .int .i64 0, .int .i64 0, .bool false, .int .u8 0, .int .u8 0, .int .u8 0, .int .u8 0, .int .u8 0, .int .u8 0, .int .u8 0, .int .u8 0, .int .u8 0, .int .u8 0, .int .u8 0, .int .u8 0, .int .u8 0, .int .u8 0, .int .u8 0, .int .u8 0, .bool false, .int .i64 0, .int .i64 0, .slice none 0 0, .slice none 0 0] 28 26 (by simp)
    rw [show ((((w.alloc (.cells (adC f).toArray 24)).alloc (.cells (adC g).toArray 24)).alloc (.cells #[.bool false, .int .i64 0, .int .i64 0, .int .i64 0, .bool false, .int .u8 0, .int .u8 0, .int .u8 0, .int .u8 0, .int .u8 0, .int .u8 0, .int .u8 0, .int .u8 0, .int .u8 0, .int .u8 0, .int .u8 0, .int .u8 0, .int .u8 0, .int .u8 0, .int .u8 0, .int .u8 0, .bool false, .int .i64 0, .int .i64 0, .slice none 0 0, .slice none 0 0] 28))).heap.size = w.heap.size + 2 + 1 by simp] at hfm
    exact hfm


set_option maxRecDepth 100000 in
set_option maxHeartbeats 4000000 in
theorem rread9_short (f g : AD) (hf : adOk f) (hg : adOk g) (hv : f.1 = true) (s : List UInt8) (hs : s.length ≤ 100000) (P : List UInt8) (hP : P = psM f g s.length) (h8 : s.length < 8) (w : World) :
    Calls Tryz.prog 16 #[.string (Str s), .agg (adC f).toArray, .agg (adC g).toArray] w fun x w' => ReadM w P s x w' := by
  have HR := Lib.hid (show readM P s = (zeroT, 3) by unfold readM; rw [if_pos h8])
  have hd : (s.length : Int) < 8 := by omega
  clear h8
  have hsz := Str_size s
  have hbz := bldr_tk0
  have hfz : fok (tkC zeroT (.slice none 0 0) (.slice none 0 0)).toArray 26 = true := fok_tk zeroA_ok rfl rfl
  obtain ⟨w1, hw1, e1, hb1, h0, hrow, hfm⟩ := QN.start9 w f g hf hg
  have H0 := Lib.hid h0
  have HB1 := Lib.hid hb1
  obtain ⟨rf, rg⟩ := hrow _ h0.blw
  rw [hw1] at hfm
  clear hf hg hv hP hb1 hrow h0
  have HW1 := Lib.hid hw1
  have HE1 := Lib.hid e1
  clear hw1 e1
  go_enter Tryz.func16, Tryz.ntmps16
  go_upto_region 2 with (fail)
  rw [← HW1.out, ← HE1.out]
  generalize aggW ((w1.alloc (.cells #[.bool false, .int .i64 0, .int .i64 0, .int .i64 0, .bool false, .int .u8 0, .int .u8 0, .int .u8 0, .int .u8 0, .int .u8 0, .int .u8 0, .int .u8 0, .int .u8 0, .int .u8 0, .int .u8 0, .int .u8 0, .int .u8 0, .int .u8 0, .int .u8 0, .int .u8 0, .int .u8 0, .bool false, .int .i64 0, .int .i64 0, .slice none 0 0, .slice none 0 0] 28)).alloc (.cells #[.bool false, .int .i64 0, .int .i64 0, .int .i64 0, .bool false, .int .u8 0, .int .u8 0, .int .u8 0, .int .u8 0, .int .u8 0, .int .u8 0, .int .u8 0, .int .u8 0, .int .u8 0, .int .u8 0, .int .u8 0, .int .u8 0, .int .u8 0, .int .u8 0, .int .u8 0, .int .u8 0, .bool false, .int .i64 0, .int .i64 0, .slice none 0 0, .slice none 0 0] 28)) (w1.heap.size + 1) _ = W at H0 rf rg ⊢
  generalize w1.heap.size + 1 = p at H0 ⊢
  generalize w.heap.size + 1 = b1 at rg ⊢
  generalize hb0 : w.heap.size = b0 at rf ⊢
  clear hb0 hbz hfm
  have rz := H0.out.row
  have fz := H0.out.free
  go_upto_region 3 with (fail)
  repeat (first | go_values | go_skip | go_guarded | go_step | go_upon | go_in)
  obtain ⟨qr1, qr2⟩ := H0.out.ret9 (P := P) (s := s) (e := 3) (HR.out)
  exact bodyPost_ret (results_cell2 Tryz.results16 rfl (ld_some qr1 (ldr_tk _ _ _))) rfl (qr2.lift HB1.out)


set_option maxRecDepth 100000 in
set_option maxHeartbeats 4000000 in
theorem rread9_sum (f g : AD) (hf : adOk f) (hg : adOk g) (hv : f.1 = true) (s : List UInt8) (hs : s.length ≤ 100000) (P : List UInt8) (hP : P = psM f g s.length) (h8 : ¬ s.length < 8) (hc : foldN (wsum (P ++ s)) ≠ 65535) (w : World) :
    Calls Tryz.prog 16 #[.string (Str s), .agg (adC f).toArray, .agg (adC g).toArray] w fun x w' => ReadM w P s x w' := by
  have HR := Lib.hid (show readM P s = (zeroT, 4) by unfold readM; rw [if_neg h8, if_pos hc])
  have hd : ¬ (s.length : Int) < 8 := by omega
  have hPl := psM_length hf hg s.length
  rw [← hP] at hPl
  have HPS : Hid (∀ W, Calls Tryz.prog 51 #[.agg (adC f).toArray, .agg (adC g).toArray, .int .i64 58, .int .i64 s.length] W fun x w' => x = .returned (.string (Str P)) ∧ Below W.heap.size W w') := Lib.hid fun W => by rw [hP]; exact rps9_any f g hf hg hv s.length (by omega) W
  have hcat := run_cat (P := Tryz.prog) P s (by omega)
  have HSUM : Hid (∀ W, Calls Tryz.prog 52 #[.string (Str (P ++ s))] W fun e w' => e = .returned (.int .i64 (foldN (wsum (P ++ s)))) ∧ w' = W) := Lib.hid fun W => (rsum_any (P ++ s) (by simp; omega) W).mono fun _ _ h => ⟨h.1, h.2.symm⟩
  have hq : (((foldN (wsum (P ++ s)) : Nat) : Int) != 65535) = true := by rw [bne_iff_ne]; omega
  generalize P ++ s = Y at *
  generalize foldN (wsum Y) = fs at *
  clear hc hPl
  have hsz := Str_size s
  have hbz := bldr_tk0
  have hfz : fok (tkC zeroT (.slice none 0 0) (.slice none 0 0)).toArray 26 = true := fok_tk zeroA_ok rfl rfl
  obtain ⟨w1, hw1, e1, hb1, h0, hrow, hfm⟩ := QN.start9 w f g hf hg
  have H0 := Lib.hid h0
  have HB1 := Lib.hid hb1
  obtain ⟨rf, rg⟩ := hrow _ h0.blw
  rw [hw1] at hfm
  clear hf hg hv hP hb1 hrow h0
  have HW1 := Lib.hid hw1
  have HE1 := Lib.hid e1
  clear hw1 e1
  go_enter Tryz.func16, Tryz.ntmps16
  go_upto_region 2 with (fail)
  rw [← HW1.out, ← HE1.out]
  generalize aggW ((w1.alloc (.cells #[.bool false, .int .i64 0, .int .i64 0, .int .i64 0, .bool false, .int .u8 0, .int .u8 0, .int .u8 0, .int .u8 0, .int .u8 0, .int .u8 0, .int .u8 0, .int .u8 0, .int .u8 0, .int .u8 0, .int .u8 0, .int .u8 0, .int .u8 0, .int .u8 0, .int .u8 0, .int .u8 0, .bool false, .int .i64 0, .int .i64 0, .slice none 0 0, .slice none 0 0] 28)).alloc (.cells #[.bool false, .int .i64 0, .int .i64 0, .int .i64 0, .bool false, .int .u8 0, .int .u8 0, .int .u8 0, .int .u8 0, .int .u8 0, .int .u8 0, .int .u8 0, .int .u8 0, .int .u8 0, .int .u8 0, .int .u8 0, .int .u8 0, .int .u8 0, .int .u8 0, .int .u8 0, .int .u8 0, .bool false, .int .i64 0, .int .i64 0, .slice none 0 0, .slice none 0 0] 28)) (w1.heap.size + 1) _ = W at H0 rf rg ⊢
  generalize w1.heap.size + 1 = p at H0 ⊢
  generalize w.heap.size + 1 = b1 at rg ⊢
  generalize hb0 : w.heap.size = b0 at rf ⊢
  clear hb0 hbz hfm
  have rz := H0.out.row
  have fz := H0.out.free
  go_upto_region 5 with (first | (go_at_call 51; (with_reducible refine (HPS.out _).mono ?_); rintro x w4 ⟨rfl, hb4⟩; have Hp := Lib.hid (H0.out.below hb4); clear hb4 rz fz; have rz := Hp.out.row; have fz := Hp.out.free) | (go_at_call 52; (with_reducible refine (HSUM.out _).mono ?_); rintro x w5 ⟨rfl, hw5⟩; subst hw5))
  repeat (first | go_values | go_skip | go_guarded | go_step | go_upon | go_in)
  obtain ⟨qr1, qr2⟩ := Hp.out.ret9 (P := P) (s := s) (e := 4) (HR.out)
  exact bodyPost_ret (results_cell2 Tryz.results16 rfl (ld_some qr1 (ldr_tk _ _ _))) rfl (qr2.lift HB1.out)


set_option maxRecDepth 100000 in
set_option maxHeartbeats 4000000 in
theorem rread9_other (f g : AD) (hf : adOk f) (hg : adOk g) (hv : f.1 = true) (s : List UInt8) (hs : s.length ≤ 100000) (P : List UInt8) (hP : P = psM f g s.length) (h8 : ¬ s.length < 8) (hc : foldN (wsum (P ++ s)) = 65535) (h1 : ¬ (130 ≤ by8 s 0 ∧ by8 s 0 ≤ 132)) (h2 : by8 s 0 ≠ 143) (w : World) :
    Calls Tryz.prog 16 #[.string (Str s), .agg (adC f).toArray, .agg (adC g).toArray] w fun x w' => ReadM w P s x w' := by
  have HR := Lib.hid (show readM P s = (zeroT, 5) by unfold readM; rw [if_neg h8, if_neg (by omega), if_neg h1, if_neg h2])
  have hd : ¬ (s.length : Int) < 8 := by omega
  have hPl := psM_length hf hg s.length
  rw [← hP] at hPl
  have HPS : Hid (∀ W, Calls Tryz.prog 51 #[.agg (adC f).toArray, .agg (adC g).toArray, .int .i64 58, .int .i64 s.length] W fun x w' => x = .returned (.string (Str P)) ∧ Below W.heap.size W w') := Lib.hid fun W => by rw [hP]; exact rps9_any f g hf hg hv s.length (by omega) W
  have hcat := run_cat (P := Tryz.prog) P s (by omega)
  have HSUM : Hid (∀ W, Calls Tryz.prog 52 #[.string (Str (P ++ s))] W fun e w' => e = .returned (.int .i64 (foldN (wsum (P ++ s)))) ∧ w' = W) := Lib.hid fun W => (rsum_any (P ++ s) (by simp; omega) W).mono fun _ _ h => ⟨h.1, h.2.symm⟩
  have hq : (((foldN (wsum (P ++ s)) : Nat) : Int) != 65535) = false := by rw [bne_eq_false_iff_eq]; omega
  generalize P ++ s = Y at *
  generalize foldN (wsum Y) = fs at *
  have i0 : (0 : Int) < (s.length : Int) := by omega
  have hn0 : 0 < s.length := by omega
  have e0 := Str_at s 0 (by rw [Str_size]; exact hn0)
  have t5 : ((by8 s 0 : Int) == 143) = false := by rw [beq_eq_false_iff_ne]; omega
  generalize by8 s 0 = c0 at *
  by_cases t1 : (130 : Int) ≤ (c0 : Int)
  · have t2 : ¬ (c0 : Int) ≤ 132 := by omega
    clear h1 h2 h8 hc hPl
    have hsz := Str_size s
    have hbz := bldr_tk0
    have hfz : fok (tkC zeroT (.slice none 0 0) (.slice none 0 0)).toArray 26 = true := fok_tk zeroA_ok rfl rfl
    obtain ⟨w1, hw1, e1, hb1, h0, hrow, hfm⟩ := QN.start9 w f g hf hg
    have H0 := Lib.hid h0
    have HB1 := Lib.hid hb1
    obtain ⟨rf, rg⟩ := hrow _ h0.blw
    rw [hw1] at hfm
    have hfm2 : ∀ W : World, free? (W.alloc (.cells #[.bool false, .int .i64 0, .int .i64 0, .int .i64 0, .bool false, .int .u8 0, .int .u8 0, .int .u8 0, .int .u8 0, .int .u8 0, .int .u8 0, .int .u8 0, .int .u8 0, .int .u8 0, .int .u8 0, .int .u8 0, .int .u8 0, .int .u8 0, .int .u8 0, .int .u8 0, .int .u8 0, .bool false, .int .i64 0, .int .i64 0, .slice none 0 0, .slice none 0 0] 28)) W.heap.size 0 26 = true := fun W => free_made W _ _ 26 (by simp)
    clear hf hg hv hP hb1 hrow h0
    have HW1 := Lib.hid hw1
    have HE1 := Lib.hid e1
    clear hw1 e1
    go_enter Tryz.func16, Tryz.ntmps16
    go_upto_region 2 with (fail)
    rw [← HW1.out, ← HE1.out]
    generalize aggW ((w1.alloc (.cells #[.bool false, .int .i64 0, .int .i64 0, .int .i64 0, .bool false, .int .u8 0, .int .u8 0, .int .u8 0, .int .u8 0, .int .u8 0, .int .u8 0, .int .u8 0, .int .u8 0, .int .u8 0, .int .u8 0, .int .u8 0, .int .u8 0, .int .u8 0, .int .u8 0, .int .u8 0, .int .u8 0, .bool false, .int .i64 0, .int .i64 0, .slice none 0 0, .slice none 0 0] 28)).alloc (.cells #[.bool false, .int .i64 0, .int .i64 0, .int .i64 0, .bool false, .int .u8 0, .int .u8 0, .int .u8 0, .int .u8 0, .int .u8 0, .int .u8 0, .int .u8 0, .int .u8 0, .int .u8 0, .int .u8 0, .int .u8 0, .int .u8 0, .int .u8 0, .int .u8 0, .int .u8 0, .int .u8 0, .bool false, .int .i64 0, .int .i64 0, .slice none 0 0, .slice none 0 0] 28)) (w1.heap.size + 1) _ = W at H0 rf rg ⊢
    generalize w1.heap.size + 1 = p at H0 ⊢
    generalize w.heap.size + 1 = b1 at rg ⊢
    generalize hb0 : w.heap.size = b0 at rf ⊢
    clear hb0 hbz hfm
    have rz := H0.out.row
    have fz := H0.out.free
    go_upto_region 7 with (first | (go_at_call 51; (with_reducible refine (HPS.out _).mono ?_); rintro x w4 ⟨rfl, hb4⟩; have Hp := Lib.hid (H0.out.below hb4); clear hb4 rz fz; have rz := Hp.out.row; have fz := Hp.out.free) | (go_at_call 52; (with_reducible refine (HSUM.out _).mono ?_); rintro x w5 ⟨rfl, hw5⟩; subst hw5))
    have H1 := Lib.hid Hp.out.talk
    generalize aggW (w5.alloc (.cells #[.bool false, .int .i64 0, .int .i64 0, .int .i64 0, .bool false, .int .u8 0, .int .u8 0, .int .u8 0, .int .u8 0, .int .u8 0, .int .u8 0, .int .u8 0, .int .u8 0, .int .u8 0, .int .u8 0, .int .u8 0, .int .u8 0, .int .u8 0, .int .u8 0, .int .u8 0, .int .u8 0, .bool false, .int .i64 0, .int .i64 0, .slice none 0 0, .slice none 0 0] 28)) w5.heap.size _ = W1 at H1 ⊢
    generalize w5.heap.size = m at H1 ⊢
    clear rz fz hfm2
    obtain ⟨k1, k2, k3, k4, k5, k6, k7, k8, k9, ka, kb, kc, kf⟩ := H1.out.cells
    have rz := H1.out.n.row
    go_upto_region 13 with (fail)
    repeat (first | go_values | go_skip | go_guarded | go_step | go_upon | go_in)
    obtain ⟨qr1, qr2⟩ := H1.out.n.ret9 (P := P) (s := s) (e := 5) (HR.out)
    exact bodyPost_ret (results_cell2 Tryz.results16 rfl (ld_some qr1 (ldr_tk _ _ _))) rfl (qr2.lift HB1.out)
  · clear h1 h2 h8 hc hPl
    have hsz := Str_size s
    have hbz := bldr_tk0
    have hfz : fok (tkC zeroT (.slice none 0 0) (.slice none 0 0)).toArray 26 = true := fok_tk zeroA_ok rfl rfl
    obtain ⟨w1, hw1, e1, hb1, h0, hrow, hfm⟩ := QN.start9 w f g hf hg
    have H0 := Lib.hid h0
    have HB1 := Lib.hid hb1
    obtain ⟨rf, rg⟩ := hrow _ h0.blw
    rw [hw1] at hfm
    have hfm2 : ∀ W : World, free? (W.alloc (.cells #[.bool false, .int .i64 0, .int .i64 0, .int .i64 0, .bool false, .int .u8 0, .int .u8 0, .int .u8 0, .int .u8 0, .int .u8 0, .int .u8 0, .int .u8 0, .int .u8 0, .int .u8 0, .int .u8 0, .int .u8 0, .int .u8 0, .int .u8 0, .int .u8 0, .int .u8 0, .int .u8 0, .bool false, .int .i64 0, .int .i64 0, .slice none 0 0, .slice none 0 0] 28)) W.heap.size 0 26 = true := fun W => free_made W _ _ 26 (by simp)
    clear hf hg hv hP hb1 hrow h0
    have HW1 := Lib.hid hw1
    have HE1 := Lib.hid e1
    clear hw1 e1
    go_enter Tryz.func16, Tryz.ntmps16
    go_upto_region 2 with (fail)
    rw [← HW1.out, ← HE1.out]
    generalize aggW ((w1.alloc (.cells #[.bool false, .int .i64 0, .int .i64 0, .int .i64 0, .bool false, .int .u8 0, .int .u8 0, .int .u8 0, .int .u8 0, .int .u8 0, .int .u8 0, .int .u8 0, .int .u8 0, .int .u8 0, .int .u8 0, .int .u8 0, .int .u8 0, .int .u8 0, .int .u8 0, .int .u8 0, .int .u8 0, .bool false, .int .i64 0, .int .i64 0, .slice none 0 0, .slice none 0 0] 28)).alloc (.cells #[.bool false, .int .i64 0, .int .i64 0, .int .i64 0, .bool false, .int .u8 0, .int .u8 0, .int .u8 0, .int .u8 0, .int .u8 0, .int .u8 0, .int .u8 0, .int .u8 0, .int .u8 0, .int .u8 0, .int .u8 0, .int .u8 0, .int .u8 0, .int .u8 0, .int .u8 0, .int .u8 0, .bool false, .int .i64 0, .int .i64 0, .slice none 0 0, .slice none 0 0] 28)) (w1.heap.size + 1) _ = W at H0 rf rg ⊢
    generalize w1.heap.size + 1 = p at H0 ⊢
    generalize w.heap.size + 1 = b1 at rg ⊢
    generalize hb0 : w.heap.size = b0 at rf ⊢
    clear hb0 hbz hfm
    have rz := H0.out.row
    have fz := H0.out.free
    go_upto_region 7 with (first | (go_at_call 51; (with_reducible refine (HPS.out _).mono ?_); rintro x w4 ⟨rfl, hb4⟩; have Hp := Lib.hid (H0.out.below hb4); clear hb4 rz fz; have rz := Hp.out.row; have fz := Hp.out.free) | (go_at_call 52; (with_reducible refine (HSUM.out _).mono ?_); rintro x w5 ⟨rfl, hw5⟩; subst hw5))
    have H1 := Lib.hid Hp.out.talk
    generalize aggW (w5.alloc (.cells #[.bool false, .int .i64 0, .int .i64 0, .int .i64 0, .bool false, .int .u8 0, .int .u8 0, .int .u8 0, .int .u8 0, .int .u8 0, .int .u8 0, .int .u8 0, .int .u8 0, .int .u8 0, .int .u8 0, .int .u8 0, .int .u8 0, .int .u8 0, .int .u8 0, .int .u8 0, .int .u8 0, .bool false, .int .i64 0, .int .i64 0, .slice none 0 0, .slice none 0 0] 28)) w5.heap.size _ = W1 at H1 ⊢
    generalize w5.heap.size = m at H1 ⊢
    clear rz fz hfm2
    obtain ⟨k1, k2, k3, k4, k5, k6, k7, k8, k9, ka, kb, kc, kf⟩ := H1.out.cells
    have rz := H1.out.n.row
    go_upto_region 13 with (fail)
    repeat (first | go_values | go_skip | go_guarded | go_step | go_upon | go_in)
    obtain ⟨qr1, qr2⟩ := H1.out.n.ret9 (P := P) (s := s) (e := 5) (HR.out)
    exact bodyPost_ret (results_cell2 Tryz.results16 rfl (ld_some qr1 (ldr_tk _ _ _))) rfl (qr2.lift HB1.out)


set_option maxRecDepth 100000 in
set_option maxHeartbeats 4000000 in
theorem rread9_one (f g : AD) (hf : adOk f) (hg : adOk g) (hv : f.1 = true) (s : List UInt8) (hs : s.length ≤ 100000) (P : List UInt8) (hP : P = psM f g s.length) (h8 : ¬ s.length < 8) (hc : foldN (wsum (P ++ s)) = 65535) (h1 : 130 ≤ by8 s 0 ∧ by8 s 0 ≤ 132) (w : World) :
    Calls Tryz.prog 16 #[.string (Str s), .agg (adC f).toArray, .agg (adC g).toArray] w fun x w' => ReadM w P s x w' := by
  have HR := Lib.hid (show readM P s = one9 s by unfold readM; rw [if_neg h8, if_neg (by omega), if_pos h1])
  have HQ := Lib.hid (fun W => rone_any s hs (by omega) h1 W)
  have hd : ¬ (s.length : Int) < 8 := by omega
  have hPl := psM_length hf hg s.length
  rw [← hP] at hPl
  have HPS : Hid (∀ W, Calls Tryz.prog 51 #[.agg (adC f).toArray, .agg (adC g).toArray, .int .i64 58, .int .i64 s.length] W fun x w' => x = .returned (.string (Str P)) ∧ Below W.heap.size W w') := Lib.hid fun W => by rw [hP]; exact rps9_any f g hf hg hv s.length (by omega) W
  have hcat := run_cat (P := Tryz.prog) P s (by omega)
  have HSUM : Hid (∀ W, Calls Tryz.prog 52 #[.string (Str (P ++ s))] W fun e w' => e = .returned (.int .i64 (foldN (wsum (P ++ s)))) ∧ w' = W) := Lib.hid fun W => (rsum_any (P ++ s) (by simp; omega) W).mono fun _ _ h => ⟨h.1, h.2.symm⟩
  have hq : (((foldN (wsum (P ++ s)) : Nat) : Int) != 65535) = false := by rw [bne_eq_false_iff_eq]; omega
  generalize P ++ s = Y at *
  generalize foldN (wsum Y) = fs at *
  have i0 : (0 : Int) < (s.length : Int) := by omega
  have hn0 : 0 < s.length := by omega
  have e0 := Str_at s 0 (by rw [Str_size]; exact hn0)
  have t5 : ((by8 s 0 : Int) == 143) = false := by rw [beq_eq_false_iff_ne]; omega
  generalize by8 s 0 = c0 at *
  have t1 : (130 : Int) ≤ (c0 : Int) := by omega
  have t2 : (c0 : Int) ≤ 132 := by omega
  clear h1 h8 hc hPl
  have hsz := Str_size s
  have hbz := bldr_tk0
  have hfz : fok (tkC zeroT (.slice none 0 0) (.slice none 0 0)).toArray 26 = true := fok_tk zeroA_ok rfl rfl
  obtain ⟨w1, hw1, e1, hb1, h0, hrow, hfm⟩ := QN.start9 w f g hf hg
  have H0 := Lib.hid h0
  have HB1 := Lib.hid hb1
  obtain ⟨rf, rg⟩ := hrow _ h0.blw
  rw [hw1] at hfm
  have hfm2 : ∀ W : World, free? (W.alloc (.cells #[.bool false, .int .i64 0, .int .i64 0, .int .i64 0, .bool false, .int .u8 0, .int .u8 0, .int .u8 0, .int .u8 0, .int .u8 0, .int .u8 0, .int .u8 0, .int .u8 0, .int .u8 0, .int .u8 0, .int .u8 0, .int .u8 0, .int .u8 0, .int .u8 0, .int .u8 0, .int .u8 0, .bool false, .int .i64 0, .int .i64 0, .slice none 0 0, .slice none 0 0] 28)) W.heap.size 0 26 = true := fun W => free_made W _ _ 26 (by simp)
  clear hf hg hv hP hb1 hrow h0
  have HW1 := Lib.hid hw1
  have HE1 := Lib.hid e1
  clear hw1 e1
  go_enter Tryz.func16, Tryz.ntmps16
  go_upto_region 2 with (fail)
  rw [← HW1.out, ← HE1.out]
  generalize aggW ((w1.alloc (.cells #[.bool false, .int .i64 0, .int .i64 0, .int .i64 0, .bool false, .int .u8 0, .int .u8 0, .int .u8 0, .int .u8 0, .int .u8 0, .int .u8 0, .int .u8 0, .int .u8 0, .int .u8 0, .int .u8 0, .int .u8 0, .int .u8 0, .int .u8 0, .int .u8 0, .int .u8 0, .int .u8 0, .bool false, .int .i64 0, .int .i64 0, .slice none 0 0, .slice none 0 0] 28)).alloc (.cells #[.bool false, .int .i64 0, .int .i64 0, .int .i64 0, .bool false, .int .u8 0, .int .u8 0, .int .u8 0, .int .u8 0, .int .u8 0, .int .u8 0, .int .u8 0, .int .u8 0, .int .u8 0, .int .u8 0, .int .u8 0, .int .u8 0, .int .u8 0, .int .u8 0, .int .u8 0, .int .u8 0, .bool false, .int .i64 0, .int .i64 0, .slice none 0 0, .slice none 0 0] 28)) (w1.heap.size + 1) _ = W at H0 rf rg ⊢
  generalize w1.heap.size + 1 = p at H0 ⊢
  generalize w.heap.size + 1 = b1 at rg ⊢
  generalize hb0 : w.heap.size = b0 at rf ⊢
  clear hb0 hbz hfm
  have rz := H0.out.row
  have fz := H0.out.free
  go_upto_region 7 with (first | (go_at_call 51; (with_reducible refine (HPS.out _).mono ?_); rintro x w4 ⟨rfl, hb4⟩; have Hp := Lib.hid (H0.out.below hb4); clear hb4 rz fz; have rz := Hp.out.row; have fz := Hp.out.free) | (go_at_call 52; (with_reducible refine (HSUM.out _).mono ?_); rintro x w5 ⟨rfl, hw5⟩; subst hw5))
  have H1 := Lib.hid Hp.out.talk
  generalize aggW (w5.alloc (.cells #[.bool false, .int .i64 0, .int .i64 0, .int .i64 0, .bool false, .int .u8 0, .int .u8 0, .int .u8 0, .int .u8 0, .int .u8 0, .int .u8 0, .int .u8 0, .int .u8 0, .int .u8 0, .int .u8 0, .int .u8 0, .int .u8 0, .int .u8 0, .int .u8 0, .int .u8 0, .int .u8 0, .bool false, .int .i64 0, .int .i64 0, .slice none 0 0, .slice none 0 0] 28)) w5.heap.size _ = W1 at H1 ⊢
  generalize w5.heap.size = m at H1 ⊢
  clear rz fz hfm2
  obtain ⟨k1, k2, k3, k4, k5, k6, k7, k8, k9, ka, kb, kc, kf⟩ := H1.out.cells
  have rz := H1.out.n.row
  go_upto_region 8 with (fail)
  go_upto_region 9 with (go_at_call 55; (with_reducible refine (HQ.out _).mono ?_); rintro x w6 ⟨t6, us6, ur6, rfl, hb6, ho6, hu6, hv6, hz6⟩; have H2 := Lib.hid (H1.out.below hb6); have HZ := Lib.hid hz6; have hft := fok_tk ho6 hu6 hv6; have HO6 := Lib.hid (And.intro ho6 (And.intro hu6 hv6)); clear hb6 hz6 ho6 hu6 hv6 k1 k2 k3 k4 k5 k6 k7 k8 k9 ka kb kc kf rz; obtain ⟨k1, k2, k3, k4, k5, k6, k7, k8, k9, ka, kb, kc, kf⟩ := H2.out.cells; have rz := H2.out.n.row)
  have HB := Lib.hid (one9_bad s)
  have HE := Lib.hid (show one9 s = ((one9 s).1, (one9 s).2) from rfl)
  generalize (one9 s).2 = E at *
  by_cases h0 : E = 0
  · obtain ⟨z1, z2, z3⟩ := HZ.out h0
    have H3 := Lib.hid (H2.out.put HO6.out.1 z2 z3)
    have HT := Lib.hid (show readM P s = (t6, 0) by rw [HR.out, HE.out, h0, z1])
    have te : (E != 0) = false := by rw [bne_eq_false_iff_eq]; exact h0
    clear z1 z2 z3 h0 HZ HB HE k1 k2 k3 k4 k5 k6 k7 k8 k9 ka kb kc kf rz
    generalize aggW w6 m _ = W3 at H3 ⊢
    obtain ⟨k1, k2, k3, k4, k5, k6, k7, k8, k9, ka, kb, kc, kf⟩ := H3.out.cells
    have rz := H3.out.n.row
    try simp only at k1 k2 k3 k4 k5 k8 k9 ka kb kc
    have hfk := H3.out.fok
    go_upto_region 14 with (fail)
    repeat (first | go_values | go_skip | go_guarded | go_step | go_upon | go_in)
    obtain ⟨qr1, qr2⟩ := H3.out.ret9 (P := P) (s := s) (HT.out)
    exact bodyPost_ret (results_cell2 Tryz.results16 rfl (ld_some qr1 (ldr_tk _ _ _))) rfl (qr2.lift HB1.out)
  · have H3 := Lib.hid (H2.out.nput (tkC t6 us6 ur6))
    have HT := Lib.hid (show readM P s = (zeroT, E) by rw [HR.out, HB.out h0])
    have te : (E != 0) = true := by rw [bne_iff_ne]; exact h0
    clear h0 HZ HB HE k1 k2 k3 k4 k5 k6 k7 k8 k9 ka kb kc kf rz
    generalize aggW w6 m _ = W3 at H3 ⊢
    have rz := H3.out.row
    have fz := H3.out.free
    go_upto_region 13 with (fail)
    repeat (first | go_values | go_skip | go_guarded | go_step | go_upon | go_in)
    obtain ⟨qr1, qr2⟩ := H3.out.ret9 (P := P) (s := s) (e := E) (HT.out)
    exact bodyPost_ret (results_cell2 Tryz.results16 rfl (ld_some qr1 (ldr_tk _ _ _))) rfl (qr2.lift HB1.out)

theorem bldr_tk7 (w : World) : (aggBuild 28 #[(0, .bool true), (1, .int .i64 2), (2, .int .i64 2)]).run Tryz.prog w = .ok (.agg (tkC ⟨true, 2, 2, 0, zeroA, false, 0, 0, [], []⟩ (.slice none 0 0) (.slice none 0 0)).toArray) w := bld_run _ _ _ (by kernel_rfl) _


set_option maxRecDepth 100000 in
set_option maxHeartbeats 4000000 in
theorem rread9_143 (f g : AD) (hf : adOk f) (hg : adOk g) (hv : f.1 = true) (s : List UInt8) (hs : s.length ≤ 100000) (P : List UInt8) (hP : P = psM f g s.length) (h8 : ¬ s.length < 8) (hc : foldN (wsum (P ++ s)) = 65535) (h1 : by8 s 0 = 143) (w : World) :
    Calls Tryz.prog 16 #[.string (Str s), .agg (adC f).toArray, .agg (adC g).toArray] w fun x w' => ReadM w P s x w' := by
  have HRb := Lib.hid (show recE9 s ≠ 0 → readM P s = (zeroT, recE9 s) from fun h => by
    unfold recE9 at h ⊢
    unfold readM; rw [if_neg h8, if_neg (by omega), if_neg (by omega), if_pos h1]
    by_cases h64 : 64 < wd s 6
    · rw [if_pos h64, if_pos h64]
    · rw [if_neg h64] at h
      rw [if_neg h64, if_neg h64, if_pos h])
  have HRg := Lib.hid (show recE9 s = 0 → readM P s = (⟨true, 2, 2, 0, zeroA, false, 0, 0, [], (recL9 s 8 (wd s 6)).1⟩, 0) from fun h => by
    unfold recE9 at h
    unfold readM; rw [if_neg h8, if_neg (by omega), if_neg (by omega), if_pos h1]
    by_cases h64 : 64 < wd s 6
    · rw [if_pos h64] at h; exact absurd h (by omega)
    · rw [if_neg h64] at h
      rw [if_neg h64, if_neg (by rw [h]; simp)])
  have HQ := Lib.hid (fun W => rrecords9_any s hs (by omega) W)
  have hb32 := bldr_tk7
  have hf32 : fok (tkC ⟨true, 2, 2, 0, zeroA, false, 0, 0, [], []⟩ (.slice none 0 0) (.slice none 0 0)).toArray 26 = true := fok_tk zeroA_ok rfl rfl
  have hd : ¬ (s.length : Int) < 8 := by omega
  have hPl := psM_length hf hg s.length
  rw [← hP] at hPl
  have HPS : Hid (∀ W, Calls Tryz.prog 51 #[.agg (adC f).toArray, .agg (adC g).toArray, .int .i64 58, .int .i64 s.length] W fun x w' => x = .returned (.string (Str P)) ∧ Below W.heap.size W w') := Lib.hid fun W => by rw [hP]; exact rps9_any f g hf hg hv s.length (by omega) W
  have hcat := run_cat (P := Tryz.prog) P s (by omega)
  have HSUM : Hid (∀ W, Calls Tryz.prog 52 #[.string (Str (P ++ s))] W fun e w' => e = .returned (.int .i64 (foldN (wsum (P ++ s)))) ∧ w' = W) := Lib.hid fun W => (rsum_any (P ++ s) (by simp; omega) W).mono fun _ _ h => ⟨h.1, h.2.symm⟩
  have hq : (((foldN (wsum (P ++ s)) : Nat) : Int) != 65535) = false := by rw [bne_eq_false_iff_eq]; omega
  generalize P ++ s = Y at *
  generalize foldN (wsum Y) = fs at *
  have i0 : (0 : Int) < (s.length : Int) := by omega
  have hn0 : 0 < s.length := by omega
  have e0 := Str_at s 0 (by rw [Str_size]; exact hn0)
  rw [h1] at e0
  clear h1 h8 hc hPl
  have hsz := Str_size s
  have hbz := bldr_tk0
  have hfz : fok (tkC zeroT (.slice none 0 0) (.slice none 0 0)).toArray 26 = true := fok_tk zeroA_ok rfl rfl
  obtain ⟨w1, hw1, e1, hb1, h0, hrow, hfm⟩ := QN.start9 w f g hf hg
  have H0 := Lib.hid h0
  have HB1 := Lib.hid hb1
  obtain ⟨rf, rg⟩ := hrow _ h0.blw
  rw [hw1] at hfm
  have hfm2 : ∀ W : World, free? (W.alloc (.cells #[.bool false, .int .i64 0, .int .i64 0, .int .i64 0, .bool false, .int .u8 0, .int .u8 0, .int .u8 0, .int .u8 0, .int .u8 0, .int .u8 0, .int .u8 0, .int .u8 0, .int .u8 0, .int .u8 0, .int .u8 0, .int .u8 0, .int .u8 0, .int .u8 0, .int .u8 0, .int .u8 0, .bool false, .int .i64 0, .int .i64 0, .slice none 0 0, .slice none 0 0] 28)) W.heap.size 0 26 = true := fun W => free_made W _ _ 26 (by simp)
  clear hf hg hv hP hb1 hrow h0
  have HW1 := Lib.hid hw1
  have HE1 := Lib.hid e1
  clear hw1 e1
  go_enter Tryz.func16, Tryz.ntmps16
  go_upto_region 2 with (fail)
  rw [← HW1.out, ← HE1.out]
  generalize aggW ((w1.alloc (.cells #[.bool false, .int .i64 0, .int .i64 0, .int .i64 0, .bool false, .int .u8 0, .int .u8 0, .int .u8 0, .int .u8 0, .int .u8 0, .int .u8 0, .int .u8 0, .int .u8 0, .int .u8 0, .int .u8 0, .int .u8 0, .int .u8 0, .int .u8 0, .int .u8 0, .int .u8 0, .int .u8 0, .bool false, .int .i64 0, .int .i64 0, .slice none 0 0, .slice none 0 0] 28)).alloc (.cells #[.bool false, .int .i64 0, .int .i64 0, .int .i64 0, .bool false, .int .u8 0, .int .u8 0, .int .u8 0, .int .u8 0, .int .u8 0, .int .u8 0, .int .u8 0, .int .u8 0, .int .u8 0, .int .u8 0, .int .u8 0, .int .u8 0, .int .u8 0, .int .u8 0, .int .u8 0, .int .u8 0, .bool false, .int .i64 0, .int .i64 0, .slice none 0 0, .slice none 0 0] 28)) (w1.heap.size + 1) _ = W at H0 rf rg ⊢
  generalize w1.heap.size + 1 = p at H0 ⊢
  generalize w.heap.size + 1 = b1 at rg ⊢
  generalize hb0 : w.heap.size = b0 at rf ⊢
  clear hb0 hbz hfm
  have rz := H0.out.row
  have fz := H0.out.free
  go_upto_region 7 with (first | (go_at_call 51; (with_reducible refine (HPS.out _).mono ?_); rintro x w4 ⟨rfl, hb4⟩; have Hp := Lib.hid (H0.out.below hb4); clear hb4 rz fz; have rz := Hp.out.row; have fz := Hp.out.free) | (go_at_call 52; (with_reducible refine (HSUM.out _).mono ?_); rintro x w5 ⟨rfl, hw5⟩; subst hw5))
  have H1 := Lib.hid Hp.out.talk
  generalize aggW (w5.alloc (.cells #[.bool false, .int .i64 0, .int .i64 0, .int .i64 0, .bool false, .int .u8 0, .int .u8 0, .int .u8 0, .int .u8 0, .int .u8 0, .int .u8 0, .int .u8 0, .int .u8 0, .int .u8 0, .int .u8 0, .int .u8 0, .int .u8 0, .int .u8 0, .int .u8 0, .int .u8 0, .int .u8 0, .bool false, .int .i64 0, .int .i64 0, .slice none 0 0, .slice none 0 0] 28)) w5.heap.size _ = W1 at H1 ⊢
  generalize w5.heap.size = m at H1 ⊢
  clear rz fz hfm2
  obtain ⟨k1, k2, k3, k4, k5, k6, k7, k8, k9, ka, kb, kc, kf⟩ := H1.out.cells
  have rz := H1.out.n.row
  go_upto_region 10 with (fail)
  go_upto_region 11 with (fail)
  have H2 := Lib.hid (H1.out.put (t' := ⟨true, 2, 2, 0, zeroA, false, 0, 0, [], []⟩) zeroA_ok (AdsT.nil _) (RcT.nil _))
  clear hb32 hf32 k1 k2 k3 k4 k5 k6 k7 k8 k9 ka kb kc kf rz
  generalize aggW W1 m _ = W2 at H2 ⊢
  obtain ⟨k1, k2, k3, k4, k5, k6, k7, k8, k9, ka, kb, kc, kf⟩ := H2.out.cells
  have rz := H2.out.n.row
  try simp only at k1 k2 k3 k4 k5 k8 k9 ka kb kc
  go_upto_region 12 with (go_at_call 56; (with_reducible refine (HQ.out _).mono ?_); rintro x w6 ⟨v6, rfl, hb6, q6, hq6, hz6⟩; have hr6 : RcT w6 v6 (q6.map Prod.fst) := ⟨_, q6, hq6, rfl⟩; clear hq6; generalize q6.map Prod.fst = l6 at hz6 hr6; obtain ⟨pp6, cc6, ev6, hl6, hc6⟩ := hr6.rcs.len; subst ev6; have H3 := Lib.hid (H2.out.below hb6); have HZ := Lib.hid hz6; have HRQ := Lib.hid hr6; clear hb6 hz6 hr6 k1 k2 k3 k4 k5 k6 k7 k8 k9 ka kb kc kf rz; obtain ⟨k1, k2, k3, k4, k5, k6, k7, k8, k9, ka, kb, kc, kf⟩ := H3.out.cells; have rz := H3.out.n.row; try simp only at k1 k2 k3 k4 k5 k8 k9 ka kb kc)
  have H4 := Lib.hid (H3.out.set 25 (.slice pp6 l6.length cc6) (tkC_rcs _ _ _ zeroA_ok (.slice pp6 l6.length cc6) l6) zeroA_ok (AdsT.nil _) HRQ.out)
  clear k1 k2 k3 k4 k5 k6 k7 k8 k9 ka kb kc kf rz
  try simp only at H4
  generalize World.setCell _ ⟨m, 25, none⟩ _ = W4 at H4 ⊢
  obtain ⟨k1, k2, k3, k4, k5, k6, k7, k8, k9, ka, kb, kc, kf⟩ := H4.out.cells
  have rz := H4.out.n.row
  try simp only at k1 k2 k3 k4 k5 k8 k9 ka kb kc
  have hfk := H4.out.fok
  have fz := H4.out.free
  generalize recE9 s = E at *
  by_cases h0 : E = 0
  · have HT := Lib.hid (show readM P s = (⟨true, 2, 2, 0, zeroA, false, 0, 0, [], l6⟩, 0) by rw [HRg.out h0, HZ.out h0])
    have te : (E != 0) = false := by rw [bne_eq_false_iff_eq]; exact h0
    clear h0 HZ HRg HRb
    go_upto_region 14 with (fail)
    repeat (first | go_values | go_skip | go_guarded | go_step | go_upon | go_in)
    obtain ⟨qr1, qr2⟩ := H4.out.ret9 (P := P) (s := s) (HT.out)
    exact bodyPost_ret (results_cell2 Tryz.results16 rfl (ld_some qr1 (ldr_tk _ _ _))) rfl (qr2.lift HB1.out)
  · have HT := Lib.hid (HRb.out h0)
    have te : (E != 0) = true := by rw [bne_iff_ne]; exact h0
    clear h0 HZ HRg HRb
    go_upto_region 13 with (fail)
    repeat (first | go_values | go_skip | go_guarded | go_step | go_upon | go_in)
    obtain ⟨qr1, qr2⟩ := H4.out.n.ret9 (P := P) (s := s) (e := E) (HT.out)
    exact bodyPost_ret (results_cell2 Tryz.results16 rfl (ld_some qr1 (ldr_tk _ _ _))) rfl (qr2.lift HB1.out)


theorem rread9_any (f g : AD) (hf : adOk f) (hg : adOk g) (hv : f.1 = true) (s : List UInt8) (hs : s.length ≤ 100000) (w : World) :
    Calls Tryz.prog 16 #[.string (Str s), .agg (adC f).toArray, .agg (adC g).toArray] w fun x w' => ReadM w (psM f g s.length) s x w' := by
  by_cases h8 : s.length < 8
  · exact rread9_short f g hf hg hv s hs _ rfl h8 w
  by_cases hc : foldN (wsum (psM f g s.length ++ s)) = 65535
  · by_cases h1 : 130 ≤ by8 s 0 ∧ by8 s 0 ≤ 132
    · exact rread9_one f g hf hg hv s hs _ rfl h8 hc h1 w
    by_cases h2 : by8 s 0 = 143
    · exact rread9_143 f g hf hg hv s hs _ rfl h8 hc h2 w
    · exact rread9_other f g hf hg hv s hs _ rfl h8 hc h1 h2 w
  · exact rread9_sum f g hf hg hv s hs _ rfl h8 hc w

end Go.Proofs.YtgpccgcppbdlpaaGreat
