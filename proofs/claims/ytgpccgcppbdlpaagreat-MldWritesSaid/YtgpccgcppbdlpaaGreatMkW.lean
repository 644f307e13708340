/-
  The walk of the law MldWrites.
-/
import Derived.Test.YtgpccgcppbdlpaaGreatMkR
import Derived.Test.YtgpccgcppbdlpaaGreatTlH
import Derived.Deep.RegionHeld3
namespace Go.Proofs.YtgpccgcppbdlpaaGreat
open Go.RowKit
set_option linter.unusedVariables false
set_option linter.unusedSimpArgs false
attribute [local go_sem ↓] ld_addr st_addr bld_addr ld_tk st_tk bld_tk
attribute [local go_sem] ldr_addr str_addr ldr_tk str_tk

def FN9 (W : World) (t : TK) (u r : Value) : Prop := Ads W u t.src ∧ Rcs W r t.rcs
theorem FN9.below {W W' : World} {t : TK} {u r : Value} (h : FN9 W t u r) (hb : Below W.heap.size W W') : FN9 W' t u r := ⟨h.1.below hb, h.2.below hb⟩
theorem bal (w : World) (o : Obj) : Below w.heap.size w (w.alloc o) := (Below.refl _ _).alloc (Nat.le_refl _) _
/-- The talk and its addresses boxed, with the talk's slices. -/
structure BZ (w W : World) (f g : AD) (t : TK) (u r : Value) : Prop where
  b : TB9 w W f g t u r
  src : AdsT W u t.src
  rcs : RcT W r t.rcs
  hf : adOk f
  hg : adOk g
theorem BZ.below {w W W' : World} {f g : AD} {t : TK} {u r : Value} (h : BZ w W f g t u r) (hb : Below W.heap.size W W') : BZ w W' f g t u r := ⟨h.b.keep hb, h.src.below hb, h.rcs.below hb, h.hf, h.hg⟩
theorem BZ.drewN {w W : World} {f g : AD} {t : TK} {u r : Value} (h : BZ w W f g t u r) (d : Nat) : BZ w (W.drewN d) f g t u r := h.below (bdrewN (Below.refl _ _) d)
theorem BZ.s {w W : World} {f g : AD} {t : TK} {u r : Value} (h : BZ w W f g t u r) : row? W w.heap.size 0 26 = some (tkC t u r) ∧ row? W (w.heap.size + 1) 0 17 = some (adC f) ∧ row? W (w.heap.size + 2) 0 17 = some (adC g) := ⟨h.b.1.row, h.b.rows h.hf h.hg⟩
theorem BZ.v {w W : World} {f g : AD} {t : TK} {u r : Value} (h : BZ w W f g t u r) : W.cell? ⟨w.heap.size + 1, 0, none⟩ = some (.bool f.1) ∧ W.cell? ⟨w.heap.size + 2, 0, none⟩ = some (.bool g.1) := ⟨by rw [ObjAt.cell h.b.2.1]; rfl, by rw [ObjAt.cell h.b.2.2.1]; rfl⟩
/-- Beside it a block for a talk. -/
def BA (w W : World) (f g : AD) (t : TK) (u r : Value) (m : Nat) : Prop := BZ w W f g t u r ∧ ObjAt W m #[.bool false, .int .i64 0, .int .i64 0, .int .i64 0, .bool false, .int .u8 0, .int .u8 0, .int .u8 0, .int .u8 0, .int .u8 0, .int .u8 0, .int .u8 0, .int .u8 0, .int .u8 0, .int .u8 0, .int .u8 0, .int .u8 0, .int .u8 0, .int .u8 0, .int .u8 0, .int .u8 0, .bool false, .int .i64 0, .int .i64 0, .slice none 0 0, .slice none 0 0] 28 ∧ w.heap.size + 2 < m
theorem BZ.mkb {w W : World} {f g : AD} {t : TK} {u r : Value} (h : BZ w W f g t u r) : BA w (W.alloc (.cells #[.bool false, .int .i64 0, .int .i64 0, .int .i64 0, .bool false, .int .u8 0, .int .u8 0, .int .u8 0, .int .u8 0, .int .u8 0, .int .u8 0, .int .u8 0, .int .u8 0, .int .u8 0, .int .u8 0, .int .u8 0, .int .u8 0, .int .u8 0, .int .u8 0, .int .u8 0, .int .u8 0, .bool false, .int .i64 0, .int .i64 0, .slice none 0 0, .slice none 0 0] 28)) f g t u r W.heap.size := ⟨h.below (bal _ _), ObjAt.made W _ _, h.b.2.2.1.lt⟩
theorem BA.below {w W W' : World} {f g : AD} {t : TK} {u r : Value} {m : Nat} (h : BA w W f g t u r m) (hb : Below W.heap.size W W') : BA w W' f g t u r m := ⟨h.1.below hb, h.2.1.below hb h.2.1.lt, h.2.2⟩
theorem BA.free {w W : World} {f g : AD} {t : TK} {u r : Value} {m : Nat} (h : BA w W f g t u r m) : free? W m 0 26 = true := obj_free h.2.1 (by simp)
theorem BA.put {w W : World} {f g : AD} {t t' : TK} {u r u' r' : Value} {m : Nat} (h : BA w W f g t u r m) (ho : adOk t'.g) (hs : AdsT W u' t'.src) (hr : RcT W r' t'.rcs) : TM w (aggW W m (tkC t' u' r')) m t' u' r' ∧ BZ w (aggW W m (tkC t' u' r')) f g t u r := by
  obtain ⟨h1, h2, h3⟩ := h
  have hgr := aggW_grown W m (tkC t' u' r')
  refine ⟨⟨⟨aggW_obj (L := (#[.bool false, .int .i64 0, .int .i64 0, .int .i64 0, .bool false, .int .u8 0, .int .u8 0, .int .u8 0, .int .u8 0, .int .u8 0, .int .u8 0, .int .u8 0, .int .u8 0, .int .u8 0, .int .u8 0, .int .u8 0, .int .u8 0, .int .u8 0, .int .u8 0, .int .u8 0, .int .u8 0, .bool false, .int .i64 0, .int .i64 0, .slice none 0 0, .slice none 0 0] : Array Value).toList) (by simpa using h2) (by rw [tkC_length ho]; rfl) (tkC_one hs.1.one hr.rcs.one), ho⟩, (hs.grown h2 hgr).1, (hr.grown h2 hgr).rcs, aggW_below h1.b.2.2.2 (by omega) _, by omega⟩, ?_⟩
  exact ⟨⟨⟨aggW_other h1.b.1.1 _ (by omega), h1.b.1.2⟩, aggW_other h1.b.2.1 _ (by omega), aggW_other h1.b.2.2.1 _ (by omega), aggW_below h1.b.2.2.2 (by omega) _⟩, h1.src.grown h2 hgr, h1.rcs.grown h2 hgr, h1.hf, h1.hg⟩
theorem TB9.few {w W : World} {f g : AD} {t t' : TK} {us ur u r : Value} (h : TB9 w W f g t us ur) (hf : adOk f) (hg : adOk g) (ho : adOk t'.g) (hs : AdsT W u t'.src) (hr : RcT W r t'.rcs) : BZ w (aggW W w.heap.size (tkC t' u r)) f g t' u r := by
  have hgr := aggW_grown W w.heap.size (tkC t' u r)
  exact ⟨⟨⟨aggW_obj h.1.1 (by rw [tkC_length ho, tkC_length h.1.2]) (tkC_one hs.1.one hr.rcs.one), ho⟩, aggW_other h.2.1 _ (by omega), aggW_other h.2.2.1 _ (by omega), aggW_below h.2.2.2 (Nat.le_refl _) _⟩, hs.grown h.1.1 hgr, hr.grown h.1.1 hgr, hf, hg⟩
theorem TB9.free {w W : World} {f g : AD} {t : TK} {us ur : Value} (h : TB9 w W f g t us ur) : free? W w.heap.size 0 26 = true := obj_free h.1.1 (by simp [tkC_length h.1.2])
theorem wrtM_le (P : List UInt8) (t : TK) (ho : t.ok) (hg : good9 t = true) : (wrtM P t).length ≤ 100000 := by
  have hb := adB_le ho.1
  have hR : (restM t).length ≤ 90000 := by
    unfold restM
    split
    · rename_i h
      obtain ⟨_, k | k | k | k⟩ := good9_cases t hg
      · obtain ⟨_, _, _, _, k5, k6, _⟩ := k
        have key : ∀ (q : List RC), (∀ r ∈ q, (recB r).length ≤ 1100) → ((q.map recB).flatten).length ≤ 1100 * q.length := by
          intro q
          induction q with
          | nil => intro _; simp
          | cons r q ih =>
            intro h
            have h1 := h r (by simp)
            have h2 := ih (fun x hx => h x (by simp [hx]))
            simp at h2 ⊢
            omega
        have h5 := key t.rcs fun r hr => by
          rw [List.all_eq_true] at k5
          obtain ⟨_, _, a3⟩ := recOk9_parts (k5 r hr)
          obtain ⟨g1, g2⟩ := ho.2.2 r hr
          have e1 := adB_le g1
          have e2 := listL_le g2
          unfold recB
          simp [putL_length]
          omega
        rw [List.length_append, putL_length]
        omega
      · omega
      · omega
      · omega
    · have hl : t.src.length ≤ 70 := by
        obtain ⟨_, k | k | k | k⟩ := good9_cases t hg
        · rw [k.2.2.2.2.2.2.2.2.2.2]; simp
        · rw [k.2.2.2.2.2.2.2.2]; simp
        · rw [k.2.2.2.2.2.2.2.2.2]; simp
        · have := srcs9_len k.2.2.2.2.2.2.1; omega
      have := listL_le ho.2.1
      split
      · simp [putL_length]; omega
      · simp [putL_length]; omega
  rw [wrtM_length]
  omega

set_option maxRecDepth 100000 in
set_option maxHeartbeats 4000000 in
theorem mwrites_f (f g : AD) (hf : adOk f) (hg : adOk g) (t : TK) (us ur : Value) (w : World) (ho : t.ok) (sa : Ads w us t.src) (ra : Rcs w ur t.rcs) (hv : f.1 = false) :
    Calls Tryz.prog 3 #[.agg (tkC t us ur).toArray, .agg (adC f).toArray, .agg (adC g).toArray] w fun x w' => x = .returned (.bool true) ∧ Below w.heap.size w w' := by
  have H0 := Lib.hid (TB9.made w f g t us ur ho.1)
  have HF0 : Hid (∀ W, Below w.heap.size w W → Calls Tryz.prog 6 #[.agg (tkC t us ur).toArray] W fun x w' => ∃ u r, x = .returned (.agg (tkC (fewT t) u r).toArray) ∧ Below W.heap.size W w' ∧ AdsT w' u (fewT t).src ∧ RcT w' r (fewT t).rcs) := Lib.hid (fun W h => lfew_any t us ur W ho.1 (sa.below h) (ra.below h))
  have hkT := fewT_ok ho
  have hlT := fewT_len t
  have hfT := fewT_few t
  generalize fewT t = T at *
  have HOT := Lib.hid hkT.1
  have HFG := Lib.hid (And.intro hf hg)
  have HFT : Hid (∀ W u r, BZ w W f g T u r → Calls Tryz.prog 6 #[.agg (tkC T u r).toArray] W fun x w' => ∃ us ur, x = .returned (.agg (tkC T us ur).toArray) ∧ Below W.heap.size W w' ∧ AdsT w' us T.src ∧ RcT w' ur T.rcs) := Lib.hid fun W u r h => by
    have := lfew_any T u r W hkT.1 h.src.1 h.rcs.rcs
    rw [hfT] at this; exact this
  have HGP := Lib.hid (fun W u r (h : FN9 W T u r) => good9_any T u r W hkT h.1 h.2 (by omega))
  have HWP := Lib.hid (fun W u r (h : FN9 W T u r) => write9_any f g hf hg T u r W hkT h.1 h.2 (by omega))
  have HGR := Lib.hid (fun W u r (h : BZ w W f g T u r) => rgood9_any T u r W hkT h.src.1 h.rcs.rcs (by omega))
  have HL := Lib.hid (fun W => lives9_any W)
  have hfm := hfm26
  obtain ⟨gd, hgd⟩ : ∃ x, x = good9 T := ⟨_, rfl⟩
  rw [← hgd] at HGP HGR
  have HGD := Lib.hid hgd
  have hgg : (gd != gd) = false := by simp
  obtain ⟨S, hS⟩ : ∃ S, S = wr9 f g T := ⟨_, rfl⟩
  obtain ⟨c, hc⟩ : ∃ c, c = wr9E f g T := ⟨_, rfl⟩
  rw [← hS, ← hc] at HWP
  have hS0 : Str S = ⟨#[]⟩ := by rw [hS]; unfold wr9; rw [if_neg (by rw [hv]; simp)]; rfl
  have hc0 : c = 1 := by rw [hc]; unfold wr9E; rw [if_neg (by rw [hv]; simp)]
  subst hc0
  clear hS hc hgd hf hg ho sa ra hkT hlT hfT
  go_enter Tryz.func3, Tryz.ntmps3
  go_upto_region 1 with (fail)
  generalize ((w.alloc (.cells (tkC t us ur).toArray 28)).alloc (.cells (adC f).toArray 24)).alloc (.cells (adC g).toArray 24) = W at H0 ⊢
  have k1 := H0.out.1.row
  have HBW := Lib.hid (show Below w.heap.size w W from H0.out.2.2.2)
  go_upto_region 2 with (go_at_call 6; (with_reducible refine (HF0.out _ HBW.out).mono ?_); rintro x w1 ⟨u, r, rfl, hb1, hs1, hr1⟩; have H1 := Lib.hid (H0.out.keep hb1); have hfo := fok_tk HOT.out hs1.1.one hr1.rcs.one; have hfr := H1.out.free; have HB1 := Lib.hid (H1.out.few HFG.out.1 HFG.out.2 HOT.out hs1 hr1); clear hb1 hs1 hr1 k1)
  generalize aggW w1 w.heap.size _ = W1 at HB1 ⊢
  clear hfo hfr H1 HF0
  have HK : Hid (∀ W, BZ w W f g T u r → row? W w.heap.size 0 26 = some (tkC T u r) ∧ row? W (w.heap.size + 1) 0 17 = some (adC f) ∧ row? W (w.heap.size + 2) 0 17 = some (adC g) ∧ BZ w W f g T u r) := Lib.hid fun W h => ⟨h.s.1, h.s.2.1, h.s.2.2, h⟩
  have HFT2 := Lib.hid (fun W h => HFT.out W u r h)
  have HGR2 := Lib.hid (fun W h => HGR.out W u r h)
  clear HFT HGR
  go_region_held3 (fun W => row? W w.heap.size 0 26 = some (tkC T u r) ∧ row? W (w.heap.size + 1) 0 17 = some (adC f) ∧ row? W (w.heap.size + 2) 0 17 = some (adC g) ∧ BZ w W f g T u r) (first | assumption | exact HK.out _ HB1.out | exact HK.out _ (HB1.out.drewN 1)) (first
    | (go_at_call 6; (with_reducible refine (HFT2.out _ (And.right (And.right (And.right (by assumption))))).mono ?_); rintro x w3 ⟨u9, r9, rfl, hb3, hs9, hr9⟩; have hk := HK.out _ (BZ.below (And.right (And.right (And.right (by assumption)))) hb3); have HN := Lib.hid (show FN9 w3 T u9 r9 from ⟨hs9.1, hr9.rcs⟩); clear hs9 hr9 hb3)
    | (go_at_call 7; (with_reducible refine (HWP.out _ _ _ HN.out).mono ?_); rintro x w3 ⟨rfl, hb3⟩; have hk := HK.out _ (BZ.below (And.right (And.right (And.right (by assumption)))) hb3); clear hb3))
  have HB2 := Lib.hid hk.2.2.2
  clear hk
  go_upto_region 3 with (fail)
  go_region_held3 (fun W => row? W w.heap.size 0 26 = some (tkC T u r) ∧ row? W (w.heap.size + 1) 0 17 = some (adC f) ∧ row? W (w.heap.size + 2) 0 17 = some (adC g) ∧ BZ w W f g T u r) (first | assumption | exact HK.out _ HB2.out | exact HK.out _ (HB2.out.drewN 1)) (first
    | (go_at_call 6; (with_reducible refine (HFT2.out _ (And.right (And.right (And.right (by assumption))))).mono ?_); rintro x w3 ⟨u8, r8, rfl, hb3, hs9, hr9⟩; have hk := HK.out _ (BZ.below (And.right (And.right (And.right (by assumption)))) hb3); have HM := Lib.hid (show FN9 w3 T u8 r8 from ⟨hs9.1, hr9.rcs⟩); clear hs9 hr9 hb3)
    | (go_at_call 8; (with_reducible refine (HGP.out _ _ _ HM.out).mono ?_); rintro x w3 ⟨rfl, hb3⟩; have hk := HK.out _ (BZ.below (And.right (And.right (And.right (by assumption)))) hb3); clear hb3)
    | (go_at_call 9; (with_reducible refine (HGR2.out _ (And.right (And.right (And.right (by assumption))))).mono ?_); rintro x w3 ⟨rfl, hb3⟩; have hk := HK.out _ (BZ.below (And.right (And.right (And.right (by assumption)))) hb3); clear hb3))
  have HB3 := Lib.hid hk.2.2.2
  clear hk
  obtain ⟨v1, v2⟩ := HB3.out.v
  rw [hv] at v1
  go_wp2_with (go_at_call 10; (with_reducible refine (HL.out _).mono ?_); rintro x w7 ⟨rfl, hb7⟩; have H7 := Lib.hid (HB3.out.below hb7); clear hb7)
  go_ret
  exact ⟨rfl, H7.out.b.2.2.2⟩
set_option maxRecDepth 100000 in
set_option maxHeartbeats 4000000 in
theorem mwrites_g (f g : AD) (hf : adOk f) (hg : adOk g) (t : TK) (us ur : Value) (w : World) (ho : t.ok) (sa : Ads w us t.src) (ra : Rcs w ur t.rcs) (hv : f.1 = true) (hw : g.1 = false) :
    Calls Tryz.prog 3 #[.agg (tkC t us ur).toArray, .agg (adC f).toArray, .agg (adC g).toArray] w fun x w' => x = .returned (.bool true) ∧ Below w.heap.size w w' := by
  have H0 := Lib.hid (TB9.made w f g t us ur ho.1)
  have HF0 : Hid (∀ W, Below w.heap.size w W → Calls Tryz.prog 6 #[.agg (tkC t us ur).toArray] W fun x w' => ∃ u r, x = .returned (.agg (tkC (fewT t) u r).toArray) ∧ Below W.heap.size W w' ∧ AdsT w' u (fewT t).src ∧ RcT w' r (fewT t).rcs) := Lib.hid (fun W h => lfew_any t us ur W ho.1 (sa.below h) (ra.below h))
  have hkT := fewT_ok ho
  have hlT := fewT_len t
  have hfT := fewT_few t
  generalize fewT t = T at *
  have HOT := Lib.hid hkT.1
  have HFG := Lib.hid (And.intro hf hg)
  have HFT : Hid (∀ W u r, BZ w W f g T u r → Calls Tryz.prog 6 #[.agg (tkC T u r).toArray] W fun x w' => ∃ us ur, x = .returned (.agg (tkC T us ur).toArray) ∧ Below W.heap.size W w' ∧ AdsT w' us T.src ∧ RcT w' ur T.rcs) := Lib.hid fun W u r h => by
    have := lfew_any T u r W hkT.1 h.src.1 h.rcs.rcs
    rw [hfT] at this; exact this
  have HGP := Lib.hid (fun W u r (h : FN9 W T u r) => good9_any T u r W hkT h.1 h.2 (by omega))
  have HWP := Lib.hid (fun W u r (h : FN9 W T u r) => write9_any f g hf hg T u r W hkT h.1 h.2 (by omega))
  have HGR := Lib.hid (fun W u r (h : BZ w W f g T u r) => rgood9_any T u r W hkT h.src.1 h.rcs.rcs (by omega))
  have HL := Lib.hid (fun W => lives9_any W)
  have hfm := hfm26
  obtain ⟨gd, hgd⟩ : ∃ x, x = good9 T := ⟨_, rfl⟩
  rw [← hgd] at HGP HGR
  have HGD := Lib.hid hgd
  have hgg : (gd != gd) = false := by simp
  obtain ⟨S, hS⟩ : ∃ S, S = wr9 f g T := ⟨_, rfl⟩
  obtain ⟨c, hc⟩ : ∃ c, c = wr9E f g T := ⟨_, rfl⟩
  rw [← hS, ← hc] at HWP
  have hS0 : Str S = ⟨#[]⟩ := by rw [hS]; unfold wr9; rw [if_neg (by rw [hv, hw]; simp)]; rfl
  have hc0 : c = 1 := by rw [hc]; unfold wr9E; rw [if_neg (by rw [hv, hw]; simp)]
  subst hc0
  clear hS hc hgd hf hg ho sa ra hkT hlT hfT
  go_enter Tryz.func3, Tryz.ntmps3
  go_upto_region 1 with (fail)
  generalize ((w.alloc (.cells (tkC t us ur).toArray 28)).alloc (.cells (adC f).toArray 24)).alloc (.cells (adC g).toArray 24) = W at H0 ⊢
  have k1 := H0.out.1.row
  have HBW := Lib.hid (show Below w.heap.size w W from H0.out.2.2.2)
  go_upto_region 2 with (go_at_call 6; (with_reducible refine (HF0.out _ HBW.out).mono ?_); rintro x w1 ⟨u, r, rfl, hb1, hs1, hr1⟩; have H1 := Lib.hid (H0.out.keep hb1); have hfo := fok_tk HOT.out hs1.1.one hr1.rcs.one; have hfr := H1.out.free; have HB1 := Lib.hid (H1.out.few HFG.out.1 HFG.out.2 HOT.out hs1 hr1); clear hb1 hs1 hr1 k1)
  generalize aggW w1 w.heap.size _ = W1 at HB1 ⊢
  clear hfo hfr H1 HF0
  have HK : Hid (∀ W, BZ w W f g T u r → row? W w.heap.size 0 26 = some (tkC T u r) ∧ row? W (w.heap.size + 1) 0 17 = some (adC f) ∧ row? W (w.heap.size + 2) 0 17 = some (adC g) ∧ BZ w W f g T u r) := Lib.hid fun W h => ⟨h.s.1, h.s.2.1, h.s.2.2, h⟩
  have HFT2 := Lib.hid (fun W h => HFT.out W u r h)
  have HGR2 := Lib.hid (fun W h => HGR.out W u r h)
  clear HFT HGR
  go_region_held3 (fun W => row? W w.heap.size 0 26 = some (tkC T u r) ∧ row? W (w.heap.size + 1) 0 17 = some (adC f) ∧ row? W (w.heap.size + 2) 0 17 = some (adC g) ∧ BZ w W f g T u r) (first | assumption | exact HK.out _ HB1.out | exact HK.out _ (HB1.out.drewN 1)) (first
    | (go_at_call 6; (with_reducible refine (HFT2.out _ (And.right (And.right (And.right (by assumption))))).mono ?_); rintro x w3 ⟨u9, r9, rfl, hb3, hs9, hr9⟩; have hk := HK.out _ (BZ.below (And.right (And.right (And.right (by assumption)))) hb3); have HN := Lib.hid (show FN9 w3 T u9 r9 from ⟨hs9.1, hr9.rcs⟩); clear hs9 hr9 hb3)
    | (go_at_call 7; (with_reducible refine (HWP.out _ _ _ HN.out).mono ?_); rintro x w3 ⟨rfl, hb3⟩; have hk := HK.out _ (BZ.below (And.right (And.right (And.right (by assumption)))) hb3); clear hb3))
  have HB2 := Lib.hid hk.2.2.2
  clear hk
  go_upto_region 3 with (fail)
  go_region_held3 (fun W => row? W w.heap.size 0 26 = some (tkC T u r) ∧ row? W (w.heap.size + 1) 0 17 = some (adC f) ∧ row? W (w.heap.size + 2) 0 17 = some (adC g) ∧ BZ w W f g T u r) (first | assumption | exact HK.out _ HB2.out | exact HK.out _ (HB2.out.drewN 1)) (first
    | (go_at_call 6; (with_reducible refine (HFT2.out _ (And.right (And.right (And.right (by assumption))))).mono ?_); rintro x w3 ⟨u8, r8, rfl, hb3, hs9, hr9⟩; have hk := HK.out _ (BZ.below (And.right (And.right (And.right (by assumption)))) hb3); have HM := Lib.hid (show FN9 w3 T u8 r8 from ⟨hs9.1, hr9.rcs⟩); clear hs9 hr9 hb3)
    | (go_at_call 8; (with_reducible refine (HGP.out _ _ _ HM.out).mono ?_); rintro x w3 ⟨rfl, hb3⟩; have hk := HK.out _ (BZ.below (And.right (And.right (And.right (by assumption)))) hb3); clear hb3)
    | (go_at_call 9; (with_reducible refine (HGR2.out _ (And.right (And.right (And.right (by assumption))))).mono ?_); rintro x w3 ⟨rfl, hb3⟩; have hk := HK.out _ (BZ.below (And.right (And.right (And.right (by assumption)))) hb3); clear hb3))
  have HB3 := Lib.hid hk.2.2.2
  clear hk
  obtain ⟨v1, v2⟩ := HB3.out.v
  rw [hv] at v1
  rw [hw] at v2
  go_wp2_with (go_at_call 10; (with_reducible refine (HL.out _).mono ?_); rintro x w7 ⟨rfl, hb7⟩; have H7 := Lib.hid (HB3.out.below hb7); clear hb7)
  go_ret
  exact ⟨rfl, H7.out.b.2.2.2⟩
set_option maxRecDepth 100000 in
set_option maxHeartbeats 4000000 in
theorem mwrites_n (f g : AD) (hf : adOk f) (hg : adOk g) (t : TK) (us ur : Value) (w : World) (ho : t.ok) (sa : Ads w us t.src) (ra : Rcs w ur t.rcs) (hv : f.1 = true) (hw : g.1 = true) (T0 : TK) (hgn : good9 T0 = false) (hT0 : T0 = fewT t) :
    Calls Tryz.prog 3 #[.agg (tkC t us ur).toArray, .agg (adC f).toArray, .agg (adC g).toArray] w fun x w' => x = .returned (.bool true) ∧ Below w.heap.size w w' := by
  have H0 := Lib.hid (TB9.made w f g t us ur ho.1)
  have HF0 : Hid (∀ W, Below w.heap.size w W → Calls Tryz.prog 6 #[.agg (tkC t us ur).toArray] W fun x w' => ∃ u r, x = .returned (.agg (tkC (fewT t) u r).toArray) ∧ Below W.heap.size W w' ∧ AdsT w' u (fewT t).src ∧ RcT w' r (fewT t).rcs) := Lib.hid (fun W h => lfew_any t us ur W ho.1 (sa.below h) (ra.below h))
  have hkT := fewT_ok ho
  have hlT := fewT_len t
  have hfT := fewT_few t
  rw [← hT0] at HF0 hkT hlT hfT
  clear hT0
  generalize T0 = T at *
  have HOT := Lib.hid hkT.1
  have HFG := Lib.hid (And.intro hf hg)
  have HFT : Hid (∀ W u r, BZ w W f g T u r → Calls Tryz.prog 6 #[.agg (tkC T u r).toArray] W fun x w' => ∃ us ur, x = .returned (.agg (tkC T us ur).toArray) ∧ Below W.heap.size W w' ∧ AdsT w' us T.src ∧ RcT w' ur T.rcs) := Lib.hid fun W u r h => by
    have := lfew_any T u r W hkT.1 h.src.1 h.rcs.rcs
    rw [hfT] at this; exact this
  have HGP := Lib.hid (fun W u r (h : FN9 W T u r) => good9_any T u r W hkT h.1 h.2 (by omega))
  have HWP := Lib.hid (fun W u r (h : FN9 W T u r) => write9_any f g hf hg T u r W hkT h.1 h.2 (by omega))
  have HGR := Lib.hid (fun W u r (h : BZ w W f g T u r) => rgood9_any T u r W hkT h.src.1 h.rcs.rcs (by omega))
  have HL := Lib.hid (fun W => lives9_any W)
  have hfm := hfm26
  obtain ⟨gd, hgd⟩ : ∃ x, x = good9 T := ⟨_, rfl⟩
  rw [← hgd] at HGP HGR
  have HGD := Lib.hid hgd
  have hgg : (gd != gd) = false := by simp
  obtain ⟨S, hS⟩ : ∃ S, S = wr9 f g T := ⟨_, rfl⟩
  obtain ⟨c, hc⟩ : ∃ c, c = wr9E f g T := ⟨_, rfl⟩
  rw [← hS, ← hc] at HWP
  have hS0 : Str S = ⟨#[]⟩ := by rw [hS]; unfold wr9; rw [if_pos (by rw [hv, hw]; rfl), if_neg (by rw [hgn]; simp)]; rfl
  have hc0 : c = 2 := by rw [hc]; unfold wr9E; rw [if_pos (by rw [hv, hw]; rfl), if_neg (by rw [hgn]; simp)]
  subst hc0
  have hgf : gd = false := by rw [hgd, hgn]
  subst hgf
  clear hS hc hgd hf hg ho sa ra hkT hlT hfT hgn
  go_enter Tryz.func3, Tryz.ntmps3
  go_upto_region 1 with (fail)
  generalize ((w.alloc (.cells (tkC t us ur).toArray 28)).alloc (.cells (adC f).toArray 24)).alloc (.cells (adC g).toArray 24) = W at H0 ⊢
  have k1 := H0.out.1.row
  have HBW := Lib.hid (show Below w.heap.size w W from H0.out.2.2.2)
  go_upto_region 2 with (go_at_call 6; (with_reducible refine (HF0.out _ HBW.out).mono ?_); rintro x w1 ⟨u, r, rfl, hb1, hs1, hr1⟩; have H1 := Lib.hid (H0.out.keep hb1); have hfo := fok_tk HOT.out hs1.1.one hr1.rcs.one; have hfr := H1.out.free; have HB1 := Lib.hid (H1.out.few HFG.out.1 HFG.out.2 HOT.out hs1 hr1); clear hb1 hs1 hr1 k1)
  generalize aggW w1 w.heap.size _ = W1 at HB1 ⊢
  clear hfo hfr H1 HF0
  have HK : Hid (∀ W, BZ w W f g T u r → row? W w.heap.size 0 26 = some (tkC T u r) ∧ row? W (w.heap.size + 1) 0 17 = some (adC f) ∧ row? W (w.heap.size + 2) 0 17 = some (adC g) ∧ BZ w W f g T u r) := Lib.hid fun W h => ⟨h.s.1, h.s.2.1, h.s.2.2, h⟩
  have HFT2 := Lib.hid (fun W h => HFT.out W u r h)
  have HGR2 := Lib.hid (fun W h => HGR.out W u r h)
  clear HFT HGR
  go_region_held3 (fun W => row? W w.heap.size 0 26 = some (tkC T u r) ∧ row? W (w.heap.size + 1) 0 17 = some (adC f) ∧ row? W (w.heap.size + 2) 0 17 = some (adC g) ∧ BZ w W f g T u r) (first | assumption | exact HK.out _ HB1.out | exact HK.out _ (HB1.out.drewN 1)) (first
    | (go_at_call 6; (with_reducible refine (HFT2.out _ (And.right (And.right (And.right (by assumption))))).mono ?_); rintro x w3 ⟨u9, r9, rfl, hb3, hs9, hr9⟩; have hk := HK.out _ (BZ.below (And.right (And.right (And.right (by assumption)))) hb3); have HN := Lib.hid (show FN9 w3 T u9 r9 from ⟨hs9.1, hr9.rcs⟩); clear hs9 hr9 hb3)
    | (go_at_call 7; (with_reducible refine (HWP.out _ _ _ HN.out).mono ?_); rintro x w3 ⟨rfl, hb3⟩; have hk := HK.out _ (BZ.below (And.right (And.right (And.right (by assumption)))) hb3); clear hb3))
  have HB2 := Lib.hid hk.2.2.2
  clear hk
  go_upto_region 3 with (fail)
  go_region_held3 (fun W => row? W w.heap.size 0 26 = some (tkC T u r) ∧ row? W (w.heap.size + 1) 0 17 = some (adC f) ∧ row? W (w.heap.size + 2) 0 17 = some (adC g) ∧ BZ w W f g T u r) (first | assumption | exact HK.out _ HB2.out | exact HK.out _ (HB2.out.drewN 1)) (first
    | (go_at_call 6; (with_reducible refine (HFT2.out _ (And.right (And.right (And.right (by assumption))))).mono ?_); rintro x w3 ⟨u8, r8, rfl, hb3, hs9, hr9⟩; have hk := HK.out _ (BZ.below (And.right (And.right (And.right (by assumption)))) hb3); have HM := Lib.hid (show FN9 w3 T u8 r8 from ⟨hs9.1, hr9.rcs⟩); clear hs9 hr9 hb3)
    | (go_at_call 8; (with_reducible refine (HGP.out _ _ _ HM.out).mono ?_); rintro x w3 ⟨rfl, hb3⟩; have hk := HK.out _ (BZ.below (And.right (And.right (And.right (by assumption)))) hb3); clear hb3)
    | (go_at_call 9; (with_reducible refine (HGR2.out _ (And.right (And.right (And.right (by assumption))))).mono ?_); rintro x w3 ⟨rfl, hb3⟩; have hk := HK.out _ (BZ.below (And.right (And.right (And.right (by assumption)))) hb3); clear hb3))
  have HB3 := Lib.hid hk.2.2.2
  clear hk
  obtain ⟨v1, v2⟩ := HB3.out.v
  rw [hv] at v1
  rw [hw] at v2
  obtain ⟨k1, k2, k3, _⟩ := HK.out _ HB3.out
  have HG3 := Lib.hid (HGR2.out _ HB3.out)
  go_wp2_with (first
    | (go_at_call 9; (with_reducible refine (HG3.out).mono ?_); rintro x w5 ⟨rfl, hb5⟩; have HB5 := Lib.hid (HB3.out.below hb5); clear hb5 k1 k2 k3)
    | (go_at_call 10; (with_reducible refine (HL.out _).mono ?_); rintro x w7 ⟨rfl, hb7⟩; have H7 := Lib.hid (HB5.out.below hb7); clear hb7))
  go_ret
  exact ⟨rfl, H7.out.b.2.2.2⟩
set_option maxRecDepth 100000 in
set_option maxHeartbeats 4000000 in
theorem mwrites_y (f g : AD) (hf : adOk f) (hg : adOk g) (t : TK) (us ur : Value) (w : World) (ho : t.ok) (sa : Ads w us t.src) (ra : Rcs w ur t.rcs) (hv : f.1 = true) (hw : g.1 = true) (T0 : TK) (hgn : good9 T0 = true) (hT0 : T0 = fewT t) :
    Calls Tryz.prog 3 #[.agg (tkC t us ur).toArray, .agg (adC f).toArray, .agg (adC g).toArray] w fun x w' => x = .returned (.bool true) ∧ Below w.heap.size w w' := by
  have H0 := Lib.hid (TB9.made w f g t us ur ho.1)
  have HF0 : Hid (∀ W, Below w.heap.size w W → Calls Tryz.prog 6 #[.agg (tkC t us ur).toArray] W fun x w' => ∃ u r, x = .returned (.agg (tkC (fewT t) u r).toArray) ∧ Below W.heap.size W w' ∧ AdsT w' u (fewT t).src ∧ RcT w' r (fewT t).rcs) := Lib.hid (fun W h => lfew_any t us ur W ho.1 (sa.below h) (ra.below h))
  have hkT := fewT_ok ho
  have hlT := fewT_len t
  have hfT := fewT_few t
  rw [← hT0] at HF0 hkT hlT hfT
  clear hT0
  generalize T0 = T at *
  have HOT := Lib.hid hkT.1
  have HFG := Lib.hid (And.intro hf hg)
  have HFT : Hid (∀ W u r, BZ w W f g T u r → Calls Tryz.prog 6 #[.agg (tkC T u r).toArray] W fun x w' => ∃ us ur, x = .returned (.agg (tkC T us ur).toArray) ∧ Below W.heap.size W w' ∧ AdsT w' us T.src ∧ RcT w' ur T.rcs) := Lib.hid fun W u r h => by
    have := lfew_any T u r W hkT.1 h.src.1 h.rcs.rcs
    rw [hfT] at this; exact this
  have HGP := Lib.hid (fun W u r (h : FN9 W T u r) => good9_any T u r W hkT h.1 h.2 (by omega))
  have HWP := Lib.hid (fun W u r (h : FN9 W T u r) => write9_any f g hf hg T u r W hkT h.1 h.2 (by omega))
  have HGR := Lib.hid (fun W u r (h : BZ w W f g T u r) => rgood9_any T u r W hkT h.src.1 h.rcs.rcs (by omega))
  have HL := Lib.hid (fun W => lives9_any W)
  have hfm := hfm26
  obtain ⟨gd, hgd⟩ : ∃ x, x = good9 T := ⟨_, rfl⟩
  rw [← hgd] at HGP HGR
  have HGD := Lib.hid hgd
  have hgg : (gd != gd) = false := by simp
  obtain ⟨S, hS⟩ : ∃ S, S = wr9 f g T := ⟨_, rfl⟩
  obtain ⟨c, hc⟩ : ∃ c, c = wr9E f g T := ⟨_, rfl⟩
  rw [← hS, ← hc] at HWP
  have hS0 : S = wrtM (psM f g (4 + (restM T).length)) T := by rw [hS]; unfold wr9; rw [if_pos (by rw [hv, hw]; rfl), if_pos hgn]
  have hc0 : c = 0 := by rw [hc]; unfold wr9E; rw [if_pos (by rw [hv, hw]; rfl), if_pos hgn]
  subst hc0
  have hgf : gd = true := by rw [hgd, hgn]
  subst hgf
  have hSl : S.length ≤ 100000 := by rw [hS0]; exact wrtM_le _ T hkT hgn
  have hSn : S.length = 4 + (restM T).length := by rw [hS0]; exact wrtM_length _ _
  have hrd : rd9 f g S = (T, 0) := by
    unfold rd9
    rw [if_pos (by rw [hv, hw]; rfl), hSn, hS0]
    exact read_wrtM _ (by rw [psM_length hf hg]) T hkT hgn
  have his : isM S = true := by
    have h := good9_cases T hgn
    have hkm : (130 ≤ kindM T ∧ kindM T ≤ 132) ∨ kindM T = 143 := by
      unfold kindM
      obtain ⟨_, k | k | k | k⟩ := h
      · rw [if_pos ⟨k.2.1, k.1⟩]; omega
      · rw [if_neg (by omega), if_pos (by omega)]; omega
      · rw [if_neg (by omega), if_neg (by omega)]; omega
      · rw [if_neg (by omega), if_neg (by omega)]; omega
    have hp := (wrtM_parts (psM f g (4 + (restM T).length)) T (by omega)).1
    rw [← hS0] at hp
    exact isM_in (by omega) (by rw [hp]; exact hkm)
  have HI : Hid (∀ W, Calls Tryz.prog 14 #[.string (Str S)] W fun x w' => x = .returned (.bool true) ∧ Below W.heap.size W w') := Lib.hid fun W => by
    have := is9_any S hSl W
    rw [his] at this; exact this
  have HRD : Hid (∀ W, Calls Tryz.prog 11 #[.string (Str S), .agg (adC f).toArray, .agg (adC g).toArray] W fun x w' => ∃ us ur, x = .returned (.tuple #[.agg (tkC T us ur).toArray, .int .i64 0]) ∧ Below W.heap.size W w' ∧ AdsT w' us T.src ∧ RcT w' ur T.rcs) := Lib.hid fun W => by
    have := read9_any f g hf hg S hSl W
    unfold ReadV at this
    rw [hrd] at this
    exact this.mono fun x w' ⟨us, ur, h1, h2, _, h4, h5⟩ => ⟨us, ur, h1, h2, h4, h5⟩
  have HWW : Hid (∀ W u r, BZ w W f g T u r → Calls Tryz.prog 12 #[.agg (tkC T u r).toArray, .agg (adC f).toArray, .agg (adC g).toArray] W fun x w' => x = .returned (.string (Str S)) ∧ Below W.heap.size W w') := Lib.hid fun W u r h => by
    have := rwrite9_any f g hf hg hv T u r W hkT h.src.1 h.rcs.rcs hgn
    rw [← hS0] at this; exact this
  have HSX : Hid (∀ W u1 r1 u2 r2, FN9 W T u1 r1 → FN9 W T u2 r2 → Calls Tryz.prog 13 #[.agg (tkC T u1 r1).toArray, .agg (tkC T u2 r2).toArray] W fun x w' => x = .returned (.bool true) ∧ Below W.heap.size W w') := Lib.hid fun W u1 r1 u2 r2 h1 h2 => by
    have := same_any _ _ T T W ⟨HOT.out, u1, r1, rfl, h1.1, h1.2⟩ ⟨HOT.out, u2, r2, rfl, h2.1, h2.2⟩
    rw [decide_eq_true rfl] at this; exact this
  have hss2 : ∀ t : List UInt8, (t == t) = true := fun t => by simp
  clear hS hc hgd hf hg ho sa ra hkT hlT hfT hgn hS0 hSl hSn hrd his
  generalize Str S = SS at *
  have hss3 : (SS.toList == SS.toList) = true := hss2 _
  go_enter Tryz.func3, Tryz.ntmps3
  go_upto_region 1 with (fail)
  generalize ((w.alloc (.cells (tkC t us ur).toArray 28)).alloc (.cells (adC f).toArray 24)).alloc (.cells (adC g).toArray 24) = W at H0 ⊢
  have k1 := H0.out.1.row
  have HBW := Lib.hid (show Below w.heap.size w W from H0.out.2.2.2)
  go_upto_region 2 with (go_at_call 6; (with_reducible refine (HF0.out _ HBW.out).mono ?_); rintro x w1 ⟨u, r, rfl, hb1, hs1, hr1⟩; have H1 := Lib.hid (H0.out.keep hb1); have hfo := fok_tk HOT.out hs1.1.one hr1.rcs.one; have hfr := H1.out.free; have HB1 := Lib.hid (H1.out.few HFG.out.1 HFG.out.2 HOT.out hs1 hr1); clear hb1 hs1 hr1 k1)
  generalize aggW w1 w.heap.size _ = W1 at HB1 ⊢
  clear hfo hfr H1 HF0
  have HK : Hid (∀ W, BZ w W f g T u r → row? W w.heap.size 0 26 = some (tkC T u r) ∧ row? W (w.heap.size + 1) 0 17 = some (adC f) ∧ row? W (w.heap.size + 2) 0 17 = some (adC g) ∧ BZ w W f g T u r) := Lib.hid fun W h => ⟨h.s.1, h.s.2.1, h.s.2.2, h⟩
  have HFT2 := Lib.hid (fun W h => HFT.out W u r h)
  have HGR2 := Lib.hid (fun W h => HGR.out W u r h)
  clear HFT HGR
  go_region_held3 (fun W => row? W w.heap.size 0 26 = some (tkC T u r) ∧ row? W (w.heap.size + 1) 0 17 = some (adC f) ∧ row? W (w.heap.size + 2) 0 17 = some (adC g) ∧ BZ w W f g T u r) (first | assumption | exact HK.out _ HB1.out | exact HK.out _ (HB1.out.drewN 1)) (first
    | (go_at_call 6; (with_reducible refine (HFT2.out _ (And.right (And.right (And.right (by assumption))))).mono ?_); rintro x w3 ⟨u9, r9, rfl, hb3, hs9, hr9⟩; have hk := HK.out _ (BZ.below (And.right (And.right (And.right (by assumption)))) hb3); have HN := Lib.hid (show FN9 w3 T u9 r9 from ⟨hs9.1, hr9.rcs⟩); clear hs9 hr9 hb3)
    | (go_at_call 7; (with_reducible refine (HWP.out _ _ _ HN.out).mono ?_); rintro x w3 ⟨rfl, hb3⟩; have hk := HK.out _ (BZ.below (And.right (And.right (And.right (by assumption)))) hb3); clear hb3))
  have HB2 := Lib.hid hk.2.2.2
  clear hk
  go_upto_region 3 with (fail)
  go_region_held3 (fun W => row? W w.heap.size 0 26 = some (tkC T u r) ∧ row? W (w.heap.size + 1) 0 17 = some (adC f) ∧ row? W (w.heap.size + 2) 0 17 = some (adC g) ∧ BZ w W f g T u r) (first | assumption | exact HK.out _ HB2.out | exact HK.out _ (HB2.out.drewN 1)) (first
    | (go_at_call 6; (with_reducible refine (HFT2.out _ (And.right (And.right (And.right (by assumption))))).mono ?_); rintro x w3 ⟨u8, r8, rfl, hb3, hs9, hr9⟩; have hk := HK.out _ (BZ.below (And.right (And.right (And.right (by assumption)))) hb3); have HM := Lib.hid (show FN9 w3 T u8 r8 from ⟨hs9.1, hr9.rcs⟩); clear hs9 hr9 hb3)
    | (go_at_call 8; (with_reducible refine (HGP.out _ _ _ HM.out).mono ?_); rintro x w3 ⟨rfl, hb3⟩; have hk := HK.out _ (BZ.below (And.right (And.right (And.right (by assumption)))) hb3); clear hb3)
    | (go_at_call 9; (with_reducible refine (HGR2.out _ (And.right (And.right (And.right (by assumption))))).mono ?_); rintro x w3 ⟨rfl, hb3⟩; have hk := HK.out _ (BZ.below (And.right (And.right (And.right (by assumption)))) hb3); clear hb3))
  have HB3 := Lib.hid hk.2.2.2
  clear hk
  obtain ⟨v1, v2⟩ := HB3.out.v
  rw [hv] at v1
  rw [hw] at v2
  obtain ⟨k1, k2, k3, _⟩ := HK.out _ HB3.out
  have HG3 := Lib.hid (HGR2.out _ HB3.out)
  have HWV := Lib.hid (fun W h => HWW.out W u r h)
  clear HWW
  go_upto_region 9 with (go_at_call 9; (with_reducible refine (HG3.out).mono ?_); rintro x w5 ⟨rfl, hb5⟩; have HB5 := Lib.hid (HB3.out.below hb5); clear hb5 k1 k2 k3)
  clear HG3 v1 v2
  go_cut [9, 10] from 66 (fun q1 q2 wr => ∃ m u7 r7, q1 = .pointer (some ⟨m, 0, none⟩) ∧ q2 = .int .i64 0 ∧ TM w wr m T u7 r7 ∧ BZ w wr f g T u r)
  case first =>
    refine wp_region_held_drew (S := fun W => row? W w.heap.size 0 26 = some (tkC T u r) ∧ row? W (w.heap.size + 1) 0 17 = some (adC f) ∧ row? W (w.heap.size + 2) 0 17 = some (adC g)) (by kernel_rfl) ((HB5.out.below (show Below _ _ (World.drew _) from ⟨rfl, rfl, rfl, Nat.le_refl _, fun _ _ => rfl⟩)).s) (fun hHeld => ?_)
    have Hq := Lib.hid (HB5.out.below (show Below _ _ (World.drew _) from ⟨rfl, rfl, rfl, Nat.le_refl _, fun _ _ => rfl⟩))
    generalize World.drew _ = wq at Hq hHeld ⊢
    refine wpAnyH_take (i := 0) (oi := { dst := some 57, op := _, type := _, pos := _, after := _, guard := _ }) (v := ?v1) rfl (by kernel_rfl) (by kernel_rfl) (by kernel_rfl) (fun _ _ _ h => h) (Or.inl ⟨by rfl, ?y1⟩) (by assumption) ?r1
    case y1 => (intro w hSw; go_simp; try with_reducible rfl)
    try simp only [Act.put, List.setIfInBounds_toArray, List.set_cons_zero, List.set_cons_succ]
    refine wpAnyH_take (i := 1) (oi := { dst := some 58, op := _, type := _, pos := _, after := _, guard := _ }) (v := ?v2) rfl (by kernel_rfl) (by kernel_rfl) (by kernel_rfl) (fun _ _ _ h => h) (Or.inl ⟨by rfl, ?y2⟩) (by assumption) ?r2
    case y2 => (intro w hSw; go_simp; try with_reducible rfl)
    try simp only [Act.put, List.setIfInBounds_toArray, List.set_cons_zero, List.set_cons_succ]
    refine wpAnyH_take (i := 2) (oi := { dst := some 59, op := _, type := _, pos := _, after := _, guard := _ }) (v := ?v3) rfl (by kernel_rfl) (by kernel_rfl) (by kernel_rfl) (fun _ _ _ h => h) (Or.inl ⟨by rfl, ?y3⟩) (by assumption) ?r3
    case y3 => (intro w hSw; go_simp; try with_reducible rfl)
    try simp only [Act.put, List.setIfInBounds_toArray, List.set_cons_zero, List.set_cons_succ]
    refine wpAnyH_take (i := 4) (oi := { dst := some 61, op := _, type := _, pos := _, after := _, guard := _ }) (v := ?v4) rfl (by kernel_rfl) (by kernel_rfl) (by kernel_rfl) (fun _ _ _ h => h) (Or.inl ⟨by rfl, ?y4⟩) (by assumption) ?r4
    case y4 => (intro w hSw; go_simp; try with_reducible rfl)
    try simp only [Act.put, List.setIfInBounds_toArray, List.set_cons_zero, List.set_cons_succ]
    refine wpAnyH_take (i := 5) (oi := { dst := some 62, op := _, type := _, pos := _, after := _, guard := _ }) (v := ?v5) rfl (by kernel_rfl) (by kernel_rfl) (by kernel_rfl) (fun _ _ _ h => h) (Or.inl ⟨by rfl, ?y5⟩) (by assumption) ?r5
    case y5 => (intro w hSw; go_simp; try with_reducible rfl)
    try simp only [Act.put, List.setIfInBounds_toArray, List.set_cons_zero, List.set_cons_succ]
    refine wpAnyH_ready (rs := [3, 10]) (by kernel_rfl) (by simp) (AllReadyH.cons (o := _) rfl (fun K hK => ?_) (AllReadyH.cons (o := _) rfl (fun K hK => ?_) AllReadyH.nil))
    · go_simp
      (go_at_call 12; (with_reducible refine (HWV.out _ Hq.out).mono ?_); rintro x w1 ⟨rfl, hb1⟩; have H1 := Lib.hid (Hq.out.below hb1); clear hb1)
      try go_wp2_with fail
      refine hK.out _ _ (H1.out.s) (fun hHeld => ?_)
      clear hK K
      try simp only [Act.put, List.setIfInBounds_toArray, List.set_cons_zero, List.set_cons_succ]
      refine wpAnyH_ready (rs := [6, 10]) (by kernel_rfl) (by simp) (AllReadyH.cons (o := _) rfl (fun K hK => ?_) (AllReadyH.cons (o := _) rfl (fun K hK => ?_) AllReadyH.nil))
      · go_simp
        (go_at_call 11; (with_reducible refine (HRD.out _).mono ?_); rintro x w2 ⟨u7, r7, rfl, hb2, hs2, hr2⟩; have hft := fok_tk HOT.out hs2.1.one hr2.rcs.one; have H2 := Lib.hid (H1.out.below hb2); have HF := Lib.hid (show AdsT w2 u7 T.src ∧ RcT w2 r7 T.rcs from ⟨hs2, hr2⟩); clear hb2 hs2 hr2)
        try go_wp2_with fail
        refine hK.out _ _ (H2.out.s) (fun hHeld => ?_)
        clear hK K
        try simp only [Act.put, List.setIfInBounds_toArray, List.set_cons_zero, List.set_cons_succ]
        refine wpAnyH_take (i := 7) (oi := { dst := some 56, op := _, type := _, pos := _, after := _, guard := _ }) (v := ?v6) rfl (by kernel_rfl) (by kernel_rfl) (by kernel_rfl) (fun _ _ _ h => h) (Or.inl ⟨by rfl, ?y6⟩) (by assumption) ?r6
        case y6 => (intro w hSw; go_simp; try with_reducible rfl)
        try simp only [Act.put, List.setIfInBounds_toArray, List.set_cons_zero, List.set_cons_succ]
        refine wpAnyH_take (i := 8) (oi := { dst := some 64, op := _, type := _, pos := _, after := _, guard := _ }) (v := ?v7) rfl (by kernel_rfl) (by kernel_rfl) (by kernel_rfl) (fun _ _ _ h => h) (Or.inl ⟨by rfl, ?y7⟩) (by assumption) ?r7
        case y7 => (intro w hSw; go_simp; try with_reducible rfl)
        try simp only [Act.put, List.setIfInBounds_toArray, List.set_cons_zero, List.set_cons_succ]
        refine wpAnyH_take (i := 9) (oi := { dst := some 65, op := _, type := _, pos := _, after := _, guard := _ }) (v := ?v8) rfl (by kernel_rfl) (by kernel_rfl) (by kernel_rfl) (fun _ _ _ h => h) (Or.inl ⟨by rfl, ?y8⟩) (by assumption) ?r8
        case y8 => (intro w hSw; go_simp; try with_reducible rfl)
        try simp only [Act.put, List.setIfInBounds_toArray, List.set_cons_zero, List.set_cons_succ]
        refine wpAnyH_ready (rs := [10]) (by kernel_rfl) (by simp) (AllReadyH.cons (o := _) rfl (fun K hK => ?_) AllReadyH.nil)
        go_simp
        refine hK.out _ _ (H2.out.mkb.1.s) (fun hHeld => ?_)
        clear hK K
        try simp only [Act.put, List.setIfInBounds_toArray, List.set_cons_zero, List.set_cons_succ]
        have HA := Lib.hid H2.out.mkb
        have HFA := Lib.hid (show AdsT (w2.alloc (.cells #[.bool false, .int .i64 0, .int .i64 0, .int .i64 0, .bool false, .int .u8 0, .int .u8 0, .int .u8 0, .int .u8 0, .int .u8 0, .int .u8 0, .int .u8 0, .int .u8 0, .int .u8 0, .int .u8 0, .int .u8 0, .int .u8 0, .int .u8 0, .int .u8 0, .int .u8 0, .int .u8 0, .bool false, .int .i64 0, .int .i64 0, .slice none 0 0, .slice none 0 0] 28)) u7 T.src ∧ RcT (w2.alloc (.cells #[.bool false, .int .i64 0, .int .i64 0, .int .i64 0, .bool false, .int .u8 0, .int .u8 0, .int .u8 0, .int .u8 0, .int .u8 0, .int .u8 0, .int .u8 0, .int .u8 0, .int .u8 0, .int .u8 0, .int .u8 0, .int .u8 0, .int .u8 0, .int .u8 0, .int .u8 0, .int .u8 0, .bool false, .int .i64 0, .int .i64 0, .slice none 0 0, .slice none 0 0] 28)) r7 T.rcs from ⟨HF.out.1.below (bal w2 _), HF.out.2.below (bal w2 _)⟩)
        generalize w2.alloc (.cells #[.bool false, .int .i64 0, .int .i64 0, .int .i64 0, .bool false, .int .u8 0, .int .u8 0, .int .u8 0, .int .u8 0, .int .u8 0, .int .u8 0, .int .u8 0, .int .u8 0, .int .u8 0, .int .u8 0, .int .u8 0, .int .u8 0, .int .u8 0, .int .u8 0, .int .u8 0, .int .u8 0, .bool false, .int .i64 0, .int .i64 0, .slice none 0 0, .slice none 0 0] 28) = WA at HA HFA hHeld ⊢
        generalize w2.heap.size = m at HA ⊢
        have HAz := Lib.hid HA.out.1
        have hfr := HA.out.free
        refine wpAnyH_ready (rs := [11]) (by kernel_rfl) (by simp) (AllReadyH.cons (o := _) rfl (fun K hK => ?_) AllReadyH.nil)
        go_simp
        refine hK.out _ _ ((HA.out.put HOT.out HFA.out.1 HFA.out.2).2.s) (fun hHeld => ?_)
        clear hK K
        try simp only [Act.put, List.setIfInBounds_toArray, List.set_cons_zero, List.set_cons_succ]
        have HZ := Lib.hid (HA.out.put HOT.out HFA.out.1 HFA.out.2)
        generalize aggW WA m _ = Wz9 at HZ hHeld ⊢
        refine wpAnyH_take (i := 12) (oi := { dst := some 10, op := _, type := _, pos := _, after := _, guard := _ }) (v := ?v9) rfl (by kernel_rfl) (by kernel_rfl) (by kernel_rfl) (fun _ _ _ h => h) (Or.inl ⟨by rfl, ?y9⟩) (by assumption) ?r9
        case y9 => (intro w hSw; go_simp; try with_reducible rfl)
        try simp only [Act.put, List.setIfInBounds_toArray, List.set_cons_zero, List.set_cons_succ]
        refine wpAnyH_done (by kernel_rfl) ?_ _
        go_wp2_with fail
        go_meet
        case rel => exact ⟨m, u7, r7, rfl, rfl, HZ.out⟩
      · go_simp
        refine hK.out _ _ (H1.out.mkb.1.s) (fun hHeld => ?_)
        clear hK K
        try simp only [Act.put, List.setIfInBounds_toArray, List.set_cons_zero, List.set_cons_succ]
        have HA := Lib.hid H1.out.mkb
        generalize w1.alloc (.cells #[.bool false, .int .i64 0, .int .i64 0, .int .i64 0, .bool false, .int .u8 0, .int .u8 0, .int .u8 0, .int .u8 0, .int .u8 0, .int .u8 0, .int .u8 0, .int .u8 0, .int .u8 0, .int .u8 0, .int .u8 0, .int .u8 0, .int .u8 0, .int .u8 0, .int .u8 0, .int .u8 0, .bool false, .int .i64 0, .int .i64 0, .slice none 0 0, .slice none 0 0] 28) = WA at HA hHeld ⊢
        generalize w1.heap.size = m at HA ⊢
        have HAz := Lib.hid HA.out.1
        refine wpAnyH_ready (rs := [6]) (by kernel_rfl) (by simp) (AllReadyH.cons (o := _) rfl (fun K hK => ?_) AllReadyH.nil)
        go_simp
        (go_at_call 11; (with_reducible refine (HRD.out _).mono ?_); rintro x w2 ⟨u7, r7, rfl, hb2, hs2, hr2⟩; have hft := fok_tk HOT.out hs2.1.one hr2.rcs.one; have H2 := Lib.hid (HA.out.below hb2); have HF := Lib.hid (show AdsT w2 u7 T.src ∧ RcT w2 r7 T.rcs from ⟨hs2, hr2⟩); have hfr := H2.out.free; clear hb2 hs2 hr2)
        try go_wp2_with fail
        refine hK.out _ _ (H2.out.1.s) (fun hHeld => ?_)
        clear hK K
        try simp only [Act.put, List.setIfInBounds_toArray, List.set_cons_zero, List.set_cons_succ]
        refine wpAnyH_take (i := 7) (oi := { dst := some 56, op := _, type := _, pos := _, after := _, guard := _ }) (v := ?v10) rfl (by kernel_rfl) (by kernel_rfl) (by kernel_rfl) (fun _ _ _ h => h) (Or.inl ⟨by rfl, ?y10⟩) (by assumption) ?r10
        case y10 => (intro w hSw; go_simp; try with_reducible rfl)
        try simp only [Act.put, List.setIfInBounds_toArray, List.set_cons_zero, List.set_cons_succ]
        refine wpAnyH_take (i := 8) (oi := { dst := some 64, op := _, type := _, pos := _, after := _, guard := _ }) (v := ?v11) rfl (by kernel_rfl) (by kernel_rfl) (by kernel_rfl) (fun _ _ _ h => h) (Or.inl ⟨by rfl, ?y11⟩) (by assumption) ?r11
        case y11 => (intro w hSw; go_simp; try with_reducible rfl)
        try simp only [Act.put, List.setIfInBounds_toArray, List.set_cons_zero, List.set_cons_succ]
        refine wpAnyH_take (i := 9) (oi := { dst := some 65, op := _, type := _, pos := _, after := _, guard := _ }) (v := ?v12) rfl (by kernel_rfl) (by kernel_rfl) (by kernel_rfl) (fun _ _ _ h => h) (Or.inl ⟨by rfl, ?y12⟩) (by assumption) ?r12
        case y12 => (intro w hSw; go_simp; try with_reducible rfl)
        try simp only [Act.put, List.setIfInBounds_toArray, List.set_cons_zero, List.set_cons_succ]
        refine wpAnyH_ready (rs := [11]) (by kernel_rfl) (by simp) (AllReadyH.cons (o := _) rfl (fun K hK => ?_) AllReadyH.nil)
        go_simp
        refine hK.out _ _ ((H2.out.put HOT.out HF.out.1 HF.out.2).2.s) (fun hHeld => ?_)
        clear hK K
        try simp only [Act.put, List.setIfInBounds_toArray, List.set_cons_zero, List.set_cons_succ]
        have HZ := Lib.hid (H2.out.put HOT.out HF.out.1 HF.out.2)
        generalize aggW w2 m _ = Wz9 at HZ hHeld ⊢
        refine wpAnyH_take (i := 12) (oi := { dst := some 10, op := _, type := _, pos := _, after := _, guard := _ }) (v := ?v13) rfl (by kernel_rfl) (by kernel_rfl) (by kernel_rfl) (fun _ _ _ h => h) (Or.inl ⟨by rfl, ?y13⟩) (by assumption) ?r13
        case y13 => (intro w hSw; go_simp; try with_reducible rfl)
        try simp only [Act.put, List.setIfInBounds_toArray, List.set_cons_zero, List.set_cons_succ]
        refine wpAnyH_done (by kernel_rfl) ?_ _
        go_wp2_with fail
        go_meet
        case rel => exact ⟨m, u7, r7, rfl, rfl, HZ.out⟩
    · go_simp
      refine hK.out _ _ (Hq.out.mkb.1.s) (fun hHeld => ?_)
      clear hK K
      try simp only [Act.put, List.setIfInBounds_toArray, List.set_cons_zero, List.set_cons_succ]
      have HA := Lib.hid Hq.out.mkb
      generalize wq.alloc (.cells #[.bool false, .int .i64 0, .int .i64 0, .int .i64 0, .bool false, .int .u8 0, .int .u8 0, .int .u8 0, .int .u8 0, .int .u8 0, .int .u8 0, .int .u8 0, .int .u8 0, .int .u8 0, .int .u8 0, .int .u8 0, .int .u8 0, .int .u8 0, .int .u8 0, .int .u8 0, .int .u8 0, .bool false, .int .i64 0, .int .i64 0, .slice none 0 0, .slice none 0 0] 28) = WA at HA hHeld ⊢
      generalize wq.heap.size = m at HA ⊢
      have HAz := Lib.hid HA.out.1
      refine wpAnyH_ready (rs := [3]) (by kernel_rfl) (by simp) (AllReadyH.cons (o := _) rfl (fun K hK => ?_) AllReadyH.nil)
      go_simp
      (go_at_call 12; (with_reducible refine (HWV.out _ HAz.out).mono ?_); rintro x w1 ⟨rfl, hb1⟩; have H1 := Lib.hid (HA.out.below hb1); clear hb1)
      try go_wp2_with fail
      refine hK.out _ _ (H1.out.1.s) (fun hHeld => ?_)
      clear hK K
      try simp only [Act.put, List.setIfInBounds_toArray, List.set_cons_zero, List.set_cons_succ]
      refine wpAnyH_ready (rs := [6]) (by kernel_rfl) (by simp) (AllReadyH.cons (o := _) rfl (fun K hK => ?_) AllReadyH.nil)
      go_simp
      (go_at_call 11; (with_reducible refine (HRD.out _).mono ?_); rintro x w2 ⟨u7, r7, rfl, hb2, hs2, hr2⟩; have hft := fok_tk HOT.out hs2.1.one hr2.rcs.one; have H2 := Lib.hid (H1.out.below hb2); have HF := Lib.hid (show AdsT w2 u7 T.src ∧ RcT w2 r7 T.rcs from ⟨hs2, hr2⟩); have hfr := H2.out.free; clear hb2 hs2 hr2)
      try go_wp2_with fail
      refine hK.out _ _ (H2.out.1.s) (fun hHeld => ?_)
      clear hK K
      try simp only [Act.put, List.setIfInBounds_toArray, List.set_cons_zero, List.set_cons_succ]
      refine wpAnyH_take (i := 7) (oi := { dst := some 56, op := _, type := _, pos := _, after := _, guard := _ }) (v := ?v14) rfl (by kernel_rfl) (by kernel_rfl) (by kernel_rfl) (fun _ _ _ h => h) (Or.inl ⟨by rfl, ?y14⟩) (by assumption) ?r14
      case y14 => (intro w hSw; go_simp; try with_reducible rfl)
      try simp only [Act.put, List.setIfInBounds_toArray, List.set_cons_zero, List.set_cons_succ]
      refine wpAnyH_take (i := 8) (oi := { dst := some 64, op := _, type := _, pos := _, after := _, guard := _ }) (v := ?v15) rfl (by kernel_rfl) (by kernel_rfl) (by kernel_rfl) (fun _ _ _ h => h) (Or.inl ⟨by rfl, ?y15⟩) (by assumption) ?r15
      case y15 => (intro w hSw; go_simp; try with_reducible rfl)
      try simp only [Act.put, List.setIfInBounds_toArray, List.set_cons_zero, List.set_cons_succ]
      refine wpAnyH_take (i := 9) (oi := { dst := some 65, op := _, type := _, pos := _, after := _, guard := _ }) (v := ?v16) rfl (by kernel_rfl) (by kernel_rfl) (by kernel_rfl) (fun _ _ _ h => h) (Or.inl ⟨by rfl, ?y16⟩) (by assumption) ?r16
      case y16 => (intro w hSw; go_simp; try with_reducible rfl)
      try simp only [Act.put, List.setIfInBounds_toArray, List.set_cons_zero, List.set_cons_succ]
      refine wpAnyH_ready (rs := [11]) (by kernel_rfl) (by simp) (AllReadyH.cons (o := _) rfl (fun K hK => ?_) AllReadyH.nil)
      go_simp
      refine hK.out _ _ ((H2.out.put HOT.out HF.out.1 HF.out.2).2.s) (fun hHeld => ?_)
      clear hK K
      try simp only [Act.put, List.setIfInBounds_toArray, List.set_cons_zero, List.set_cons_succ]
      have HZ := Lib.hid (H2.out.put HOT.out HF.out.1 HF.out.2)
      generalize aggW w2 m _ = Wz9 at HZ hHeld ⊢
      refine wpAnyH_take (i := 12) (oi := { dst := some 10, op := _, type := _, pos := _, after := _, guard := _ }) (v := ?v17) rfl (by kernel_rfl) (by kernel_rfl) (by kernel_rfl) (fun _ _ _ h => h) (Or.inl ⟨by rfl, ?y17⟩) (by assumption) ?r17
      case y17 => (intro w hSw; go_simp; try with_reducible rfl)
      try simp only [Act.put, List.setIfInBounds_toArray, List.set_cons_zero, List.set_cons_succ]
      refine wpAnyH_done (by kernel_rfl) ?_ _
      go_wp2_with fail
      go_meet
      case rel => exact ⟨m, u7, r7, rfl, rfl, HZ.out⟩
  case rest =>
    obtain ⟨m, u7, r7, rfl, rfl, hg9⟩ := hcut
    have H9 := Lib.hid hg9
    clear hg9
    obtain ⟨k1, k2, k3, _⟩ := HK.out _ H9.out.2
    have k4 := H9.out.1.tk.row
    go_wp2_with (first
      | (go_at_call 12; (with_reducible refine (HWV.out _ H9.out.2).mono ?_); rintro x wa ⟨rfl, hba⟩; have Ha := Lib.hid (show TM w wa m T u7 r7 ∧ BZ w wa f g T u r from ⟨H9.out.1.below hba, H9.out.2.below hba⟩); have HXa := Lib.hid (HSX.out wa u7 r7 u r ⟨Ha.out.1.src, Ha.out.1.rcs⟩ ⟨Ha.out.2.src.1, Ha.out.2.rcs.rcs⟩); clear hba k1 k2 k3 k4; obtain ⟨k1, k2, k3, _⟩ := HK.out _ Ha.out.2; have k4 := Ha.out.1.tk.row)
      | (go_at_call 13; (with_reducible refine (HXa.out).mono ?_); rintro x wb ⟨rfl, hbb⟩; have Hb := Lib.hid (Ha.out.2.below hbb); clear hbb k1 k2 k3 k4)
      | (go_at_call 14; (with_reducible refine (HI.out _).mono ?_); rintro x wc ⟨rfl, hbc⟩; have Hc := Lib.hid (Hb.out.below hbc); clear hbc)
      | (go_at_call 10; (with_reducible refine (HL.out _).mono ?_); rintro x wd ⟨rfl, hbd⟩; have Hd := Lib.hid (Hc.out.below hbd); clear hbd))
    go_ret
    exact ⟨rfl, Hd.out.b.2.2.2⟩

theorem mwrites (f g : AD) (hf : adOk f) (hg : adOk g) (t : TK) (us ur : Value) (w : World) (ho : t.ok) (sa : Ads w us t.src) (ra : Rcs w ur t.rcs) :
    Calls Tryz.prog 3 #[.agg (tkC t us ur).toArray, .agg (adC f).toArray, .agg (adC g).toArray] w fun x w' => x = .returned (.bool true) ∧ Below w.heap.size w w' := by
  cases hv : f.1 with
  | false => exact mwrites_f f g hf hg t us ur w ho sa ra hv
  | true =>
    cases hw : g.1 with
    | false => exact mwrites_g f g hf hg t us ur w ho sa ra hv hw
    | true =>
      cases hgn : good9 (fewT t) with
      | false => exact mwrites_n f g hf hg t us ur w ho sa ra hv hw _ hgn rfl
      | true => exact mwrites_y f g hf hg t us ur w ho sa ra hv hw _ hgn rfl
end Go.Proofs.YtgpccgcppbdlpaaGreat
