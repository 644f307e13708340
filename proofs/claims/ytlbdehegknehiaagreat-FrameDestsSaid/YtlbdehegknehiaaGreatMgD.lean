/- A part of the proof. -/
import Derived.Test.YtlbdehegknehiaaGreatMg00
import Derived.Test.YtlbdehegknehiaaGreatMg25
import Derived.Test.YtlbdehegknehiaaGreatMg16
import Derived.Test.YtlbdehegknehiaaGreatIp
namespace Go.Proofs.YtlbdehegknehiaaGreat
set_option maxRecDepth 100000
set_option maxHeartbeats 4000000
open Go.RowKit
set_option linter.unusedVariables false
set_option linter.unusedSimpArgs false
theorem bld_shp9 (p : Array (Nat × Value)) : Instr.build 140 p = aggBuild 140 p := rfl
theorem bldr_shp9 (a b : Int) (w : World) : (aggBuild 140 #[(0, .int .i64 a), (1, .int .i64 b)]).run Tryz.prog w = .ok (.agg #[.int .i64 a, .int .i64 b]) w := bld_run _ _ _ (by kernel_rfl) _
theorem eq_shp9_d (d : Nat) (a b c e : Int) (w : World) : (Op.equalIn (d + 1 + 1) 140 (.agg #[.int .i64 a, .int .i64 b]) (.agg #[.int .i64 c, .int .i64 e])).run Tryz.prog w = .ok (decide (a = c) && decide (b = e)) w := by
  have hf : Tryz.prog.underlying 140 = some (.struct (Tryz.prog.fieldsOf 140)) := by
    have h := Tryz.underlying140
    rw [Program.fieldsOf, h]
  have q1 : (part 3 #[.int .i64 a, .int .i64 b] 0).run Tryz.prog w = .ok (.int .i64 a) w := run_part_plain w (by kernel_rfl) rfl
  have q2 : (part 3 #[.int .i64 c, .int .i64 e] 0).run Tryz.prog w = .ok (.int .i64 c) w := run_part_plain w (by kernel_rfl) rfl
  have q3 : (part 3 #[.int .i64 a, .int .i64 b] 1).run Tryz.prog w = .ok (.int .i64 b) w := run_part_plain w (by kernel_rfl) rfl
  have q4 : (part 3 #[.int .i64 c, .int .i64 e] 1).run Tryz.prog w = .ok (.int .i64 e) w := run_part_plain w (by kernel_rfl) rfl
  have q5 : ∀ x y : Int, (Op.equalIn (d + 1) 3 (.int .i64 x) (.int .i64 y)).run Tryz.prog w = .ok (decide (x = y)) w := fun x y => by
    rw [run_equalIn_int w d 3 .i64 .i64 _ _ Tryz.underlying3]; congr 1
  have hF : (Tryz.prog.fieldsOf 140).toList.map (fun f => (f.name, f.type, f.offset)) = [("version", 3, 0), ("kind", 3, 1)] := by kernel_rfl
  rw [run_equalIn_struct w (d + 1) _ _ _ hf (by kernel_rfl)]
  generalize (Tryz.prog.fieldsOf 140).toList = fs at hF
  obtain ⟨f, fs1, rfl, hf1, hF1⟩ := List.map_eq_cons_iff.1 hF
  obtain ⟨g, fs2, rfl, hg1, hF2⟩ := List.map_eq_cons_iff.1 hF1
  obtain rfl := List.map_eq_nil_iff.1 hF2
  simp only [Prod.mk.injEq] at hf1 hg1
  obtain ⟨n1, n2, n3⟩ := hf1
  obtain ⟨n4, n5, n6⟩ := hg1
  simp only [Op.eqFields, n1, n2, n3, n4, n5, n6, ne_eq, String.reduceEq, not_false_eq_true, if_true, Sem.run_bind, q1, q2, q3, q4, q5, Result.andThen_ok]
  by_cases h1 : a = c
  · subst h1
    by_cases h2 : b = e
    · subst h2; simp [q5, q3, q4]
    · simp [q5, q3, q4, h2]
  · simp [h1]
theorem eq_shp9 (a b c e : Int) (w : World) : (Op.equalIn 10000 140 (.agg #[.int .i64 a, .int .i64 b]) (.agg #[.int .i64 c, .int .i64 e])).run Tryz.prog w = .ok (decide (a = c) && decide (b = e)) w := eq_shp9_d 9998 a b c e w
theorem bldr_tkvk9 (ver kind : Int) (w : World) : (aggBuild 28 #[(0, .bool true), (1, .int .i64 ver), (2, .int .i64 kind)]).run Tryz.prog w = .ok (.agg (tkC ⟨true, ver, kind, 0, zeroA, false, 0, 0, [], []⟩ (.slice none 0 0) (.slice none 0 0)).toArray) w := bld_run _ _ _ (by kernel_rfl) _
theorem GE.start9 {w W : World} {t : TK} {us ur : Value} (h : TkAt W w.heap.size t us ur) (hb : Below w.heap.size w W) (ver kind : Int) : GE w (aggW (W.alloc (.cells zz26 28)) W.heap.size (tkC ⟨true, ver, kind, 0, zeroA, false, 0, 0, [], []⟩ (.slice none 0 0) (.slice none 0 0))) W.heap.size t us ur ⟨true, ver, kind, 0, zeroA, false, 0, 0, [], []⟩ (.slice none 0 0) (.slice none 0 0) := by
  have hm := TM.made (w := W) (t := ⟨true, ver, kind, 0, zeroA, false, 0, 0, [], []⟩) (Below.refl _ _) zeroA_ok (Ads.nil W) (Rcs.nil W)
  exact ⟨h.below hm.blw, hm.tk, bstep hb hm.blw, h.1.lt⟩
attribute [local go_sem ↓] ld_addr st_addr bld_addr ld_tk st_tk bld_tk bld_shp9
attribute [local go_sem] ldr_addr str_addr str_addr_at ldr_tk str_tk bldr_shp9 row?_drew_eq
theorem mgood_no (t : TK) (us ur : Value) (w : World) (ho : t.ok) (hs : Ads w us t.src) (hr : Rcs w ur t.rcs) (hk : ¬ (t.ver = 1 ∧ t.kind = 1) ∧ ¬ (t.ver = 1 ∧ t.kind = 2) ∧ ¬ (t.ver = 1 ∧ t.kind = 3) ∧ ¬ (t.ver = 2 ∧ t.kind = 1) ∧ ¬ (t.ver = 2 ∧ t.kind = 2)) (R : Bool) (hR : R = good9 t) :
    Calls Tryz.prog 57 #[.agg (tkC t us ur).toArray] w fun x w' => x = .returned (.bool R) ∧ Below w.heap.size w w' := by
  have hog := ho.1
  have H0 := zh (And.intro (TkAt.made w t us ur hog) ((Below.refl w.heap.size w).alloc (Nat.le_refl _) (.cells (tkC t us ur).toArray 28)))
  have HSA := zh (fun W (h : Below w.heap.size w W) => hs.below h)
  have HRA := zh (fun W (h : Below w.heap.size w W) => hr.below h)
  have HOG := zh hog
  obtain ⟨pu, cu, e1, hu1, hu2⟩ := hs.len
  obtain ⟨pr, cr, e2, hr1, hr2⟩ := hr.len
  have hm1 : t.src.length ≤ maxLen := by omega
  unfold maxLen at hm1
  clear hs hr hu1 hu2 hr1 hr2 ho
  obtain ⟨v6, ver, kind, resp, g, quiet, rob, every, src, rcs⟩ := t
  simp only at *
  have q11 : ∀ w0, (Op.equalIn 10000 140 (.agg #[.int .i64 ver, .int .i64 kind]) (.agg #[.int .i64 1, .int .i64 1])).run Tryz.prog w0 = .ok false w0 := fun w0 => by rw [eq_shp9]; congr 1; simp; omega
  have q12 : ∀ w0, (Op.equalIn 10000 140 (.agg #[.int .i64 ver, .int .i64 kind]) (.agg #[.int .i64 1, .int .i64 2])).run Tryz.prog w0 = .ok false w0 := fun w0 => by rw [eq_shp9]; congr 1; simp; omega
  have q13 : ∀ w0, (Op.equalIn 10000 140 (.agg #[.int .i64 ver, .int .i64 kind]) (.agg #[.int .i64 1, .int .i64 3])).run Tryz.prog w0 = .ok false w0 := fun w0 => by rw [eq_shp9]; congr 1; simp; omega
  have q21 : ∀ w0, (Op.equalIn 10000 140 (.agg #[.int .i64 ver, .int .i64 kind]) (.agg #[.int .i64 2, .int .i64 1])).run Tryz.prog w0 = .ok false w0 := fun w0 => by rw [eq_shp9]; congr 1; simp; omega
  have q22 : ∀ w0, (Op.equalIn 10000 140 (.agg #[.int .i64 ver, .int .i64 kind]) (.agg #[.int .i64 2, .int .i64 2])).run Tryz.prog w0 = .ok false w0 := fun w0 => by rw [eq_shp9]; congr 1; simp; omega
  have HK := zh hk
  rw [g9_no v6 ver kind hk] at hR
  have HRR := zh hR
  clear hk
  clear hR
  subst e1 e2
  have H0 := zh H0.out
  obtain ⟨T, hT⟩ : ∃ T : TK, T = ⟨v6, ver, kind, resp, g, quiet, rob, every, src, rcs⟩ := ⟨_, rfl⟩
  have HC0 : Hid (∀ W, TkAt W w.heap.size ⟨v6, ver, kind, resp, g, quiet, rob, every, src, rcs⟩ (.slice pu src.length cu) (.slice pr rcs.length cr) → W.cell? ⟨w.heap.size, 1, none⟩ = some (.int .i64 ver) ∧ W.cell? ⟨w.heap.size, 2, none⟩ = some (.int .i64 kind)) := zh fun W h => ⟨h.ver, h.kind⟩
  have HST := zh (fun W h hb => GE.start9 (w := w) (W := W) (t := ⟨v6, ver, kind, resp, g, quiet, rob, every, src, rcs⟩) (us := .slice pu src.length cu) (ur := .slice pr rcs.length cr) h hb ver kind)
  have hbb := bldr_tkvk9 ver kind
  rw [← hT] at H0 HC0 HST ⊢
  try rw [← hT] at HRR
  have hTf : Hid (T = ⟨v6, ver, kind, resp, g, quiet, rob, every, src, rcs⟩) := zh hT
  have HCC : Hid (∀ W m e se re, GE w W m T (.slice pu src.length cu) (.slice pr rcs.length cr) e se re → W.cell? ⟨w.heap.size, 1, none⟩ = some (.int .i64 ver) ∧ W.cell? ⟨w.heap.size, 2, none⟩ = some (.int .i64 kind) ∧ W.cell? ⟨w.heap.size, 3, none⟩ = some (.int .i64 resp) ∧ row? W w.heap.size 4 17 = some (adC g) ∧ W.cell? ⟨w.heap.size, 21, none⟩ = some (.bool quiet) ∧ W.cell? ⟨w.heap.size, 22, none⟩ = some (.int .i64 rob) ∧ W.cell? ⟨w.heap.size, 23, none⟩ = some (.int .i64 every) ∧ W.cell? ⟨w.heap.size, 24, none⟩ = some (.slice pu src.length cu) ∧ W.cell? ⟨w.heap.size, 25, none⟩ = some (.slice pr rcs.length cr) ∧ row? W w.heap.size 0 26 = some (tkC T (.slice pu src.length cu) (.slice pr rcs.length cr)) ∧ row? W m 0 26 = some (tkC e se re)) := zh fun W m e se re h => by
    have := h.cells
    unfold GEC at this
    rw [hTf.out] at this ⊢
    exact this
  have HSM : Hid (∀ W m e se re, GE w W m T (.slice pu src.length cu) (.slice pr rcs.length cr) e se re → Ads W se e.src → Rcs W re e.rcs → Calls Tryz.prog 35 #[.agg (tkC T (.slice pu src.length cu) (.slice pr rcs.length cr)).toArray, .agg (tkC e se re).toArray] W fun x w' => x = .returned (.bool (decide (T = e))) ∧ Below W.heap.size W w') := zh fun W m e se re h ha hr => same8_any _ _ T e W ⟨h.tk.2, _, _, rfl, by rw [hTf.out]; exact HSA.out _ h.blw, by rw [hTf.out]; exact HRA.out _ h.blw⟩ ⟨h.ek.2, _, _, rfl, ha, hr⟩
  clear hT
  go_enter Tryz.func57, Tryz.ntmps57
  go_upto_region 1 with (fail)
  generalize w.alloc (.cells (tkC T _ _).toArray 28) = W0 at H0 ⊢
  obtain ⟨c1, c2⟩ := HC0.out _ H0.out.1
  have hfk := TM.fok (W := W0) (t := ⟨true, ver, kind, 0, zeroA, false, 0, 0, [], []⟩) (us := .slice none 0 0) (ur := .slice none 0 0) zeroA_ok (Ads.nil W0) (Rcs.nil W0)
  have hfm := hfm26 W0
  have H1 := zh (HST.out W0 H0.out.1 H0.out.2)
  go_upto_region 3 with (fail)
  generalize aggW (W0.alloc _) W0.heap.size _ = W1 at H1 ⊢
  generalize W0.heap.size = m at H1 ⊢
  clear c1 c2 hfk hfm HC0 HST H0 hbb
  obtain ⟨c1, c2, c3, c4, c5, c6, c7, c8, c9, ca, cb⟩ := HCC.out _ _ _ _ _ H1.out
  go_wp2
  go_ret
  exact ⟨ret_bool8 (by rw [HRR.out]), H1.out.blw⟩
theorem mgood_12 (t : TK) (us ur : Value) (w : World) (ho : t.ok) (hs : Ads w us t.src) (hr : Rcs w ur t.rcs) (hk : t.ver = 1 ∧ t.kind = 2) (R : Bool) (hR : R = good9 t) :
    Calls Tryz.prog 57 #[.agg (tkC t us ur).toArray] w fun x w' => x = .returned (.bool R) ∧ Below w.heap.size w w' := by
  have hog := ho.1
  have H0 := zh (And.intro (TkAt.made w t us ur hog) ((Below.refl w.heap.size w).alloc (Nat.le_refl _) (.cells (tkC t us ur).toArray 28)))
  have HSA := zh (fun W (h : Below w.heap.size w W) => hs.below h)
  have HRA := zh (fun W (h : Below w.heap.size w W) => hr.below h)
  have HOG := zh hog
  obtain ⟨pu, cu, e1, hu1, hu2⟩ := hs.len
  obtain ⟨pr, cr, e2, hr1, hr2⟩ := hr.len
  have hm1 : t.src.length ≤ maxLen := by omega
  unfold maxLen at hm1
  clear hs hr hu1 hu2 hr1 hr2 ho
  obtain ⟨v6, ver, kind, resp, g, quiet, rob, every, src, rcs⟩ := t
  simp only at *
  obtain ⟨rfl, rfl⟩ := hk
  rw [g9_12 v6 1 2 (by omega)] at hR
  have HRR := zh hR
  clear hR
  subst e1 e2
  have H0 := zh H0.out
  obtain ⟨T, hT⟩ : ∃ T : TK, T = ⟨v6, 1, 2, resp, g, quiet, rob, every, src, rcs⟩ := ⟨_, rfl⟩
  have HC0 : Hid (∀ W, TkAt W w.heap.size ⟨v6, 1, 2, resp, g, quiet, rob, every, src, rcs⟩ (.slice pu src.length cu) (.slice pr rcs.length cr) → W.cell? ⟨w.heap.size, 1, none⟩ = some (.int .i64 1) ∧ W.cell? ⟨w.heap.size, 2, none⟩ = some (.int .i64 2)) := zh fun W h => ⟨h.ver, h.kind⟩
  have HST := zh (fun W h hb => GE.start9 (w := w) (W := W) (t := ⟨v6, 1, 2, resp, g, quiet, rob, every, src, rcs⟩) (us := .slice pu src.length cu) (ur := .slice pr rcs.length cr) h hb 1 2)
  have hbb := bldr_tkvk9 1 2
  rw [← hT] at H0 HC0 HST ⊢
  try rw [← hT] at HRR
  have hTf : Hid (T = ⟨v6, 1, 2, resp, g, quiet, rob, every, src, rcs⟩) := zh hT
  have HCC : Hid (∀ W m e se re, GE w W m T (.slice pu src.length cu) (.slice pr rcs.length cr) e se re → W.cell? ⟨w.heap.size, 1, none⟩ = some (.int .i64 1) ∧ W.cell? ⟨w.heap.size, 2, none⟩ = some (.int .i64 2) ∧ W.cell? ⟨w.heap.size, 3, none⟩ = some (.int .i64 resp) ∧ row? W w.heap.size 4 17 = some (adC g) ∧ W.cell? ⟨w.heap.size, 21, none⟩ = some (.bool quiet) ∧ W.cell? ⟨w.heap.size, 22, none⟩ = some (.int .i64 rob) ∧ W.cell? ⟨w.heap.size, 23, none⟩ = some (.int .i64 every) ∧ W.cell? ⟨w.heap.size, 24, none⟩ = some (.slice pu src.length cu) ∧ W.cell? ⟨w.heap.size, 25, none⟩ = some (.slice pr rcs.length cr) ∧ row? W w.heap.size 0 26 = some (tkC T (.slice pu src.length cu) (.slice pr rcs.length cr)) ∧ row? W m 0 26 = some (tkC e se re)) := zh fun W m e se re h => by
    have := h.cells
    unfold GEC at this
    rw [hTf.out] at this ⊢
    exact this
  have HSM : Hid (∀ W m e se re, GE w W m T (.slice pu src.length cu) (.slice pr rcs.length cr) e se re → Ads W se e.src → Rcs W re e.rcs → Calls Tryz.prog 35 #[.agg (tkC T (.slice pu src.length cu) (.slice pr rcs.length cr)).toArray, .agg (tkC e se re).toArray] W fun x w' => x = .returned (.bool (decide (T = e))) ∧ Below W.heap.size W w') := zh fun W m e se re h ha hr => same8_any _ _ T e W ⟨h.tk.2, _, _, rfl, by rw [hTf.out]; exact HSA.out _ h.blw, by rw [hTf.out]; exact HRA.out _ h.blw⟩ ⟨h.ek.2, _, _, rfl, ha, hr⟩
  clear hT
  go_enter Tryz.func57, Tryz.ntmps57
  go_upto_region 1 with (fail)
  generalize w.alloc (.cells (tkC T _ _).toArray 28) = W0 at H0 ⊢
  obtain ⟨c1, c2⟩ := HC0.out _ H0.out.1
  have hfk := TM.fok (W := W0) (t := ⟨true, 1, 2, 0, zeroA, false, 0, 0, [], []⟩) (us := .slice none 0 0) (ur := .slice none 0 0) zeroA_ok (Ads.nil W0) (Rcs.nil W0)
  have hfm := hfm26 W0
  have H1 := zh (HST.out W0 H0.out.1 H0.out.2)
  go_upto_region 3 with (fail)
  generalize aggW (W0.alloc _) W0.heap.size _ = W1 at H1 ⊢
  generalize W0.heap.size = m at H1 ⊢
  clear c1 c2 hfk hfm HC0 HST H0 hbb
  obtain ⟨c1, c2, c3, c4, c5, c6, c7, c8, c9, ca, cb⟩ := HCC.out _ _ _ _ _ H1.out
  have q11 : ∀ w0, (Op.equalIn 10000 140 (.agg #[.int .i64 1, .int .i64 2]) (.agg #[.int .i64 1, .int .i64 1])).run Tryz.prog w0 = .ok false w0 := fun w0 => by rw [eq_shp9]; rfl
  have q12 : ∀ w0, (Op.equalIn 10000 140 (.agg #[.int .i64 1, .int .i64 2]) (.agg #[.int .i64 1, .int .i64 2])).run Tryz.prog w0 = .ok true w0 := fun w0 => by rw [eq_shp9]; rfl
  have q13 : ∀ w0, (Op.equalIn 10000 140 (.agg #[.int .i64 1, .int .i64 2]) (.agg #[.int .i64 1, .int .i64 3])).run Tryz.prog w0 = .ok false w0 := fun w0 => by rw [eq_shp9]; rfl
  have q21 : ∀ w0, (Op.equalIn 10000 140 (.agg #[.int .i64 1, .int .i64 2]) (.agg #[.int .i64 2, .int .i64 1])).run Tryz.prog w0 = .ok false w0 := fun w0 => by rw [eq_shp9]; rfl
  have q22 : ∀ w0, (Op.equalIn 10000 140 (.agg #[.int .i64 1, .int .i64 2]) (.agg #[.int .i64 2, .int .i64 2])).run Tryz.prog w0 = .ok false w0 := fun w0 => by rw [eq_shp9]; rfl
  have HCF : Hid (∀ W m e se re, GE w W m T (.slice pu src.length cu) (.slice pr rcs.length cr) e se re → GEF W m e se re) := zh fun W m e se re h => h.cellsf
  have hfg : fok (adC g).toArray 17 = true := fok_addr _ _ HOG.out
  have HG := zh (fun W => group9_any g HOG.out W)
  generalize grp9 g = b at HG HRR
  obtain ⟨f3, f4, f5, f6, f7, f8, f9, fz⟩ := HCF.out _ _ _ _ _ H1.out
  have H2 := zh (H1.out.grp g HOG.out)
  go_upto_region 10 with (fail)
  generalize aggO W1 m 4 _ = W2 at H2 ⊢
  clear c1 c2 c3 c4 c5 c6 c7 c8 c9 ca cb f3 f4 f5 f6 f7 f8 f9 fz
  obtain ⟨c1, c2, c3, c4, c5, c6, c7, c8, c9, ca, cb⟩ := HCC.out _ _ _ _ _ H2.out
  cases b with
  | false =>
    go_wp2_with (go_at_call 125; (with_reducible refine (HG.out _).mono ?_); rintro x w3 ⟨rfl, hb3⟩; have H3 := zh (H2.out.below hb3); clear hb3)
    go_ret
    exact ⟨ret_bool8 (by rw [HRR.out]; rfl), H3.out.blw⟩
  | true =>
    go_wp2_with (first
      | (go_at_call 125; (with_reducible refine (HG.out _).mono ?_); rintro x w3 ⟨rfl, hb3⟩; have H3 := zh (H2.out.below hb3); clear hb3 c1 c2 c3 c4 c5 c6 c7 c8 c9 ca cb; obtain ⟨c1, c2, c3, c4, c5, c6, c7, c8, c9, ca, cb⟩ := HCC.out _ _ _ _ _ H3.out)
      | (go_at_call 35; (with_reducible refine (HSM.out _ _ _ _ _ H3.out (Ads.nil _) (Rcs.nil _)).mono ?_); rintro x w9 ⟨rfl, hb9⟩; have H9 := zh (H3.out.below hb9); clear hb9))
    go_ret
    exact ⟨ret_bool8 (by rw [HRR.out, hTf.out]; rfl), H9.out.blw⟩
theorem mgood_13 (t : TK) (us ur : Value) (w : World) (ho : t.ok) (hs : Ads w us t.src) (hr : Rcs w ur t.rcs) (hk : t.ver = 1 ∧ t.kind = 3) (R : Bool) (hR : R = good9 t) :
    Calls Tryz.prog 57 #[.agg (tkC t us ur).toArray] w fun x w' => x = .returned (.bool R) ∧ Below w.heap.size w w' := by
  have hog := ho.1
  have H0 := zh (And.intro (TkAt.made w t us ur hog) ((Below.refl w.heap.size w).alloc (Nat.le_refl _) (.cells (tkC t us ur).toArray 28)))
  have HSA := zh (fun W (h : Below w.heap.size w W) => hs.below h)
  have HRA := zh (fun W (h : Below w.heap.size w W) => hr.below h)
  have HOG := zh hog
  obtain ⟨pu, cu, e1, hu1, hu2⟩ := hs.len
  obtain ⟨pr, cr, e2, hr1, hr2⟩ := hr.len
  have hm1 : t.src.length ≤ maxLen := by omega
  unfold maxLen at hm1
  clear hs hr hu1 hu2 hr1 hr2 ho
  obtain ⟨v6, ver, kind, resp, g, quiet, rob, every, src, rcs⟩ := t
  simp only at *
  obtain ⟨rfl, rfl⟩ := hk
  rw [g9_12 v6 1 3 (by omega)] at hR
  have HRR := zh hR
  clear hR
  subst e1 e2
  have H0 := zh H0.out
  obtain ⟨T, hT⟩ : ∃ T : TK, T = ⟨v6, 1, 3, resp, g, quiet, rob, every, src, rcs⟩ := ⟨_, rfl⟩
  have HC0 : Hid (∀ W, TkAt W w.heap.size ⟨v6, 1, 3, resp, g, quiet, rob, every, src, rcs⟩ (.slice pu src.length cu) (.slice pr rcs.length cr) → W.cell? ⟨w.heap.size, 1, none⟩ = some (.int .i64 1) ∧ W.cell? ⟨w.heap.size, 2, none⟩ = some (.int .i64 3)) := zh fun W h => ⟨h.ver, h.kind⟩
  have HST := zh (fun W h hb => GE.start9 (w := w) (W := W) (t := ⟨v6, 1, 3, resp, g, quiet, rob, every, src, rcs⟩) (us := .slice pu src.length cu) (ur := .slice pr rcs.length cr) h hb 1 3)
  have hbb := bldr_tkvk9 1 3
  rw [← hT] at H0 HC0 HST ⊢
  try rw [← hT] at HRR
  have hTf : Hid (T = ⟨v6, 1, 3, resp, g, quiet, rob, every, src, rcs⟩) := zh hT
  have HCC : Hid (∀ W m e se re, GE w W m T (.slice pu src.length cu) (.slice pr rcs.length cr) e se re → W.cell? ⟨w.heap.size, 1, none⟩ = some (.int .i64 1) ∧ W.cell? ⟨w.heap.size, 2, none⟩ = some (.int .i64 3) ∧ W.cell? ⟨w.heap.size, 3, none⟩ = some (.int .i64 resp) ∧ row? W w.heap.size 4 17 = some (adC g) ∧ W.cell? ⟨w.heap.size, 21, none⟩ = some (.bool quiet) ∧ W.cell? ⟨w.heap.size, 22, none⟩ = some (.int .i64 rob) ∧ W.cell? ⟨w.heap.size, 23, none⟩ = some (.int .i64 every) ∧ W.cell? ⟨w.heap.size, 24, none⟩ = some (.slice pu src.length cu) ∧ W.cell? ⟨w.heap.size, 25, none⟩ = some (.slice pr rcs.length cr) ∧ row? W w.heap.size 0 26 = some (tkC T (.slice pu src.length cu) (.slice pr rcs.length cr)) ∧ row? W m 0 26 = some (tkC e se re)) := zh fun W m e se re h => by
    have := h.cells
    unfold GEC at this
    rw [hTf.out] at this ⊢
    exact this
  have HSM : Hid (∀ W m e se re, GE w W m T (.slice pu src.length cu) (.slice pr rcs.length cr) e se re → Ads W se e.src → Rcs W re e.rcs → Calls Tryz.prog 35 #[.agg (tkC T (.slice pu src.length cu) (.slice pr rcs.length cr)).toArray, .agg (tkC e se re).toArray] W fun x w' => x = .returned (.bool (decide (T = e))) ∧ Below W.heap.size W w') := zh fun W m e se re h ha hr => same8_any _ _ T e W ⟨h.tk.2, _, _, rfl, by rw [hTf.out]; exact HSA.out _ h.blw, by rw [hTf.out]; exact HRA.out _ h.blw⟩ ⟨h.ek.2, _, _, rfl, ha, hr⟩
  clear hT
  go_enter Tryz.func57, Tryz.ntmps57
  go_upto_region 1 with (fail)
  generalize w.alloc (.cells (tkC T _ _).toArray 28) = W0 at H0 ⊢
  obtain ⟨c1, c2⟩ := HC0.out _ H0.out.1
  have hfk := TM.fok (W := W0) (t := ⟨true, 1, 3, 0, zeroA, false, 0, 0, [], []⟩) (us := .slice none 0 0) (ur := .slice none 0 0) zeroA_ok (Ads.nil W0) (Rcs.nil W0)
  have hfm := hfm26 W0
  have H1 := zh (HST.out W0 H0.out.1 H0.out.2)
  go_upto_region 3 with (fail)
  generalize aggW (W0.alloc _) W0.heap.size _ = W1 at H1 ⊢
  generalize W0.heap.size = m at H1 ⊢
  clear c1 c2 hfk hfm HC0 HST H0 hbb
  obtain ⟨c1, c2, c3, c4, c5, c6, c7, c8, c9, ca, cb⟩ := HCC.out _ _ _ _ _ H1.out
  have q11 : ∀ w0, (Op.equalIn 10000 140 (.agg #[.int .i64 1, .int .i64 3]) (.agg #[.int .i64 1, .int .i64 1])).run Tryz.prog w0 = .ok false w0 := fun w0 => by rw [eq_shp9]; rfl
  have q12 : ∀ w0, (Op.equalIn 10000 140 (.agg #[.int .i64 1, .int .i64 3]) (.agg #[.int .i64 1, .int .i64 2])).run Tryz.prog w0 = .ok false w0 := fun w0 => by rw [eq_shp9]; rfl
  have q13 : ∀ w0, (Op.equalIn 10000 140 (.agg #[.int .i64 1, .int .i64 3]) (.agg #[.int .i64 1, .int .i64 3])).run Tryz.prog w0 = .ok true w0 := fun w0 => by rw [eq_shp9]; rfl
  have q21 : ∀ w0, (Op.equalIn 10000 140 (.agg #[.int .i64 1, .int .i64 3]) (.agg #[.int .i64 2, .int .i64 1])).run Tryz.prog w0 = .ok false w0 := fun w0 => by rw [eq_shp9]; rfl
  have q22 : ∀ w0, (Op.equalIn 10000 140 (.agg #[.int .i64 1, .int .i64 3]) (.agg #[.int .i64 2, .int .i64 2])).run Tryz.prog w0 = .ok false w0 := fun w0 => by rw [eq_shp9]; rfl
  have HCF : Hid (∀ W m e se re, GE w W m T (.slice pu src.length cu) (.slice pr rcs.length cr) e se re → GEF W m e se re) := zh fun W m e se re h => h.cellsf
  have hfg : fok (adC g).toArray 17 = true := fok_addr _ _ HOG.out
  have HG := zh (fun W => group9_any g HOG.out W)
  generalize grp9 g = b at HG HRR
  obtain ⟨f3, f4, f5, f6, f7, f8, f9, fz⟩ := HCF.out _ _ _ _ _ H1.out
  have H2 := zh (H1.out.grp g HOG.out)
  go_upto_region 10 with (fail)
  generalize aggO W1 m 4 _ = W2 at H2 ⊢
  clear c1 c2 c3 c4 c5 c6 c7 c8 c9 ca cb f3 f4 f5 f6 f7 f8 f9 fz
  obtain ⟨c1, c2, c3, c4, c5, c6, c7, c8, c9, ca, cb⟩ := HCC.out _ _ _ _ _ H2.out
  cases b with
  | false =>
    go_wp2_with (go_at_call 125; (with_reducible refine (HG.out _).mono ?_); rintro x w3 ⟨rfl, hb3⟩; have H3 := zh (H2.out.below hb3); clear hb3)
    go_ret
    exact ⟨ret_bool8 (by rw [HRR.out]; rfl), H3.out.blw⟩
  | true =>
    go_wp2_with (first
      | (go_at_call 125; (with_reducible refine (HG.out _).mono ?_); rintro x w3 ⟨rfl, hb3⟩; have H3 := zh (H2.out.below hb3); clear hb3 c1 c2 c3 c4 c5 c6 c7 c8 c9 ca cb; obtain ⟨c1, c2, c3, c4, c5, c6, c7, c8, c9, ca, cb⟩ := HCC.out _ _ _ _ _ H3.out)
      | (go_at_call 35; (with_reducible refine (HSM.out _ _ _ _ _ H3.out (Ads.nil _) (Rcs.nil _)).mono ?_); rintro x w9 ⟨rfl, hb9⟩; have H9 := zh (H3.out.below hb9); clear hb9))
    go_ret
    exact ⟨ret_bool8 (by rw [HRR.out, hTf.out]; rfl), H9.out.blw⟩
theorem mgood_11 (t : TK) (us ur : Value) (w : World) (ho : t.ok) (hs : Ads w us t.src) (hr : Rcs w ur t.rcs) (hk : t.ver = 1 ∧ t.kind = 1) (R : Bool) (hR : R = good9 t) :
    Calls Tryz.prog 57 #[.agg (tkC t us ur).toArray] w fun x w' => x = .returned (.bool R) ∧ Below w.heap.size w w' := by
  have hog := ho.1
  have H0 := zh (And.intro (TkAt.made w t us ur hog) ((Below.refl w.heap.size w).alloc (Nat.le_refl _) (.cells (tkC t us ur).toArray 28)))
  have HSA := zh (fun W (h : Below w.heap.size w W) => hs.below h)
  have HRA := zh (fun W (h : Below w.heap.size w W) => hr.below h)
  have HOG := zh hog
  obtain ⟨pu, cu, e1, hu1, hu2⟩ := hs.len
  obtain ⟨pr, cr, e2, hr1, hr2⟩ := hr.len
  have hm1 : t.src.length ≤ maxLen := by omega
  unfold maxLen at hm1
  clear hs hr hu1 hu2 hr1 hr2 ho
  obtain ⟨v6, ver, kind, resp, g, quiet, rob, every, src, rcs⟩ := t
  simp only at *
  obtain ⟨rfl, rfl⟩ := hk
  rw [g9_11] at hR
  have HRR := zh hR
  clear hR
  subst e1 e2
  have H0 := zh H0.out
  obtain ⟨T, hT⟩ : ∃ T : TK, T = ⟨v6, 1, 1, resp, g, quiet, rob, every, src, rcs⟩ := ⟨_, rfl⟩
  have HC0 : Hid (∀ W, TkAt W w.heap.size ⟨v6, 1, 1, resp, g, quiet, rob, every, src, rcs⟩ (.slice pu src.length cu) (.slice pr rcs.length cr) → W.cell? ⟨w.heap.size, 1, none⟩ = some (.int .i64 1) ∧ W.cell? ⟨w.heap.size, 2, none⟩ = some (.int .i64 1)) := zh fun W h => ⟨h.ver, h.kind⟩
  have HST := zh (fun W h hb => GE.start9 (w := w) (W := W) (t := ⟨v6, 1, 1, resp, g, quiet, rob, every, src, rcs⟩) (us := .slice pu src.length cu) (ur := .slice pr rcs.length cr) h hb 1 1)
  have hbb := bldr_tkvk9 1 1
  rw [← hT] at H0 HC0 HST ⊢
  try rw [← hT] at HRR
  have hTf : Hid (T = ⟨v6, 1, 1, resp, g, quiet, rob, every, src, rcs⟩) := zh hT
  have HCC : Hid (∀ W m e se re, GE w W m T (.slice pu src.length cu) (.slice pr rcs.length cr) e se re → W.cell? ⟨w.heap.size, 1, none⟩ = some (.int .i64 1) ∧ W.cell? ⟨w.heap.size, 2, none⟩ = some (.int .i64 1) ∧ W.cell? ⟨w.heap.size, 3, none⟩ = some (.int .i64 resp) ∧ row? W w.heap.size 4 17 = some (adC g) ∧ W.cell? ⟨w.heap.size, 21, none⟩ = some (.bool quiet) ∧ W.cell? ⟨w.heap.size, 22, none⟩ = some (.int .i64 rob) ∧ W.cell? ⟨w.heap.size, 23, none⟩ = some (.int .i64 every) ∧ W.cell? ⟨w.heap.size, 24, none⟩ = some (.slice pu src.length cu) ∧ W.cell? ⟨w.heap.size, 25, none⟩ = some (.slice pr rcs.length cr) ∧ row? W w.heap.size 0 26 = some (tkC T (.slice pu src.length cu) (.slice pr rcs.length cr)) ∧ row? W m 0 26 = some (tkC e se re)) := zh fun W m e se re h => by
    have := h.cells
    unfold GEC at this
    rw [hTf.out] at this ⊢
    exact this
  have HSM : Hid (∀ W m e se re, GE w W m T (.slice pu src.length cu) (.slice pr rcs.length cr) e se re → Ads W se e.src → Rcs W re e.rcs → Calls Tryz.prog 35 #[.agg (tkC T (.slice pu src.length cu) (.slice pr rcs.length cr)).toArray, .agg (tkC e se re).toArray] W fun x w' => x = .returned (.bool (decide (T = e))) ∧ Below W.heap.size W w') := zh fun W m e se re h ha hr => same8_any _ _ T e W ⟨h.tk.2, _, _, rfl, by rw [hTf.out]; exact HSA.out _ h.blw, by rw [hTf.out]; exact HRA.out _ h.blw⟩ ⟨h.ek.2, _, _, rfl, ha, hr⟩
  clear hT
  go_enter Tryz.func57, Tryz.ntmps57
  go_upto_region 1 with (fail)
  generalize w.alloc (.cells (tkC T _ _).toArray 28) = W0 at H0 ⊢
  obtain ⟨c1, c2⟩ := HC0.out _ H0.out.1
  have hfk := TM.fok (W := W0) (t := ⟨true, 1, 1, 0, zeroA, false, 0, 0, [], []⟩) (us := .slice none 0 0) (ur := .slice none 0 0) zeroA_ok (Ads.nil W0) (Rcs.nil W0)
  have hfm := hfm26 W0
  have H1 := zh (HST.out W0 H0.out.1 H0.out.2)
  go_upto_region 3 with (fail)
  generalize aggW (W0.alloc _) W0.heap.size _ = W1 at H1 ⊢
  generalize W0.heap.size = m at H1 ⊢
  clear c1 c2 hfk hfm HC0 HST H0 hbb
  obtain ⟨c1, c2, c3, c4, c5, c6, c7, c8, c9, ca, cb⟩ := HCC.out _ _ _ _ _ H1.out
  have q11 : ∀ w0, (Op.equalIn 10000 140 (.agg #[.int .i64 1, .int .i64 1]) (.agg #[.int .i64 1, .int .i64 1])).run Tryz.prog w0 = .ok true w0 := fun w0 => by rw [eq_shp9]; rfl
  have q12 : ∀ w0, (Op.equalIn 10000 140 (.agg #[.int .i64 1, .int .i64 1]) (.agg #[.int .i64 1, .int .i64 2])).run Tryz.prog w0 = .ok false w0 := fun w0 => by rw [eq_shp9]; rfl
  have q13 : ∀ w0, (Op.equalIn 10000 140 (.agg #[.int .i64 1, .int .i64 1]) (.agg #[.int .i64 1, .int .i64 3])).run Tryz.prog w0 = .ok false w0 := fun w0 => by rw [eq_shp9]; rfl
  have q21 : ∀ w0, (Op.equalIn 10000 140 (.agg #[.int .i64 1, .int .i64 1]) (.agg #[.int .i64 2, .int .i64 1])).run Tryz.prog w0 = .ok false w0 := fun w0 => by rw [eq_shp9]; rfl
  have q22 : ∀ w0, (Op.equalIn 10000 140 (.agg #[.int .i64 1, .int .i64 1]) (.agg #[.int .i64 2, .int .i64 2])).run Tryz.prog w0 = .ok false w0 := fun w0 => by rw [eq_shp9]; rfl
  have HCF : Hid (∀ W m e se re, GE w W m T (.slice pu src.length cu) (.slice pr rcs.length cr) e se re → GEF W m e se re) := zh fun W m e se re h => h.cellsf
  have hfg : fok (adC g).toArray 17 = true := fok_addr _ _ HOG.out
  have HX := zh (fun W => within9_any resp 0 65535 W)
  have HG := zh (fun W => target9_any g HOG.out W)
  generalize decide (0 ≤ resp ∧ resp ≤ 65535) = b at HX HRR
  generalize targ9 g = d at HG HRR
  go_upto_region 5 with (fail)
  have hb0 := And.intro c3 c4
  have Hq0 := zh H1.out.drew
  refine wp_region_held_drew (S := fun W => W.cell? ⟨w.heap.size, 3, none⟩ = some (.int .i64 resp) ∧ row? W w.heap.size 4 17 = some (adC g)) (by kernel_rfl) (And.intro c3 c4) (fun hHeld => ?_)
  clear hb0
  generalize World.drew _ = Wq0 at Hq0 hHeld ⊢
  refine wpAnyH_take (i := 0) (oi := { dst := some 18, op := _, type := _, pos := _, after := _, guard := _ }) (v := ?hv1) rfl (by kernel_rfl) (by kernel_rfl) (by kernel_rfl) (fun _ _ _ h => h) (Or.inl ⟨by rfl, ?hy1⟩) (by assumption) ?hr1
  case hy1 => (intro ws hSw; obtain ⟨s1, s2⟩ := hSw; go_simp; try with_reducible rfl)
  try simp only [Act.put, zsA, zsZ, zsS]
  refine wpAnyH_take (i := 1) (oi := { dst := some 19, op := _, type := _, pos := _, after := _, guard := _ }) (v := ?hv2) rfl (by kernel_rfl) (by kernel_rfl) (by kernel_rfl) (fun _ _ _ h => h) (Or.inl ⟨by rfl, ?hy2⟩) (by assumption) ?hr2
  case hy2 => (intro ws hSw; obtain ⟨s1, s2⟩ := hSw; go_simp; try with_reducible rfl)
  try simp only [Act.put, zsA, zsZ, zsS]
  refine wpAnyH_take (i := 2) (oi := { dst := some 20, op := _, type := _, pos := _, after := _, guard := _ }) (v := ?hv3) rfl (by kernel_rfl) (by kernel_rfl) (by kernel_rfl) (fun _ _ _ h => h) (Or.inl ⟨by rfl, ?hy3⟩) (by assumption) ?hr3
  case hy3 => (intro ws hSw; obtain ⟨s1, s2⟩ := hSw; go_simp; try with_reducible rfl)
  try simp only [Act.put, zsA, zsZ, zsS]
  refine wpAnyH_take (i := 3) (oi := { dst := some 21, op := _, type := _, pos := _, after := _, guard := _ }) (v := ?hv4) rfl (by kernel_rfl) (by kernel_rfl) (by kernel_rfl) (fun _ _ _ h => h) (Or.inl ⟨by rfl, ?hy4⟩) (by assumption) ?hr4
  case hy4 => (intro ws hSw; obtain ⟨s1, s2⟩ := hSw; go_simp; try with_reducible rfl)
  try simp only [Act.put, zsA, zsZ, zsS]
  refine wpAnyH_take (i := 4) (oi := { dst := some 22, op := _, type := _, pos := _, after := _, guard := _ }) (v := ?hv5) rfl (by kernel_rfl) (by kernel_rfl) (by kernel_rfl) (fun _ _ _ h => h) (Or.inl ⟨by rfl, ?hy5⟩) (by assumption) ?hr5
  case hy5 => (intro ws hSw; obtain ⟨s1, s2⟩ := hSw; go_simp; try with_reducible rfl)
  try simp only [Act.put, zsA, zsZ, zsS]
  have Hq1 := zh (Hq0.out.set 3 (.int .i64 resp) (tkC_resp _ _ _ _) zeroA_ok)
  obtain ⟨f3, f4, f5, f6, f7, f8, f9, fz⟩ := HCF.out _ _ _ _ _ Hq0.out
  refine wpAnyH_ready (rs := [5]) (by kernel_rfl) (by simp) (AllReadyH.cons (o := _) rfl (fun K hK => ?_) AllReadyH.nil)
  go_simp
  refine hK.out _ _ (have hh := HCC.out _ _ _ _ _ Hq1.out; ⟨hh.2.2.1, hh.2.2.2.1⟩) (fun hHeld => ?_)
  clear hK K f3 f4 f5 f6 f7 f8 f9 fz
  try simp only [Act.put, zsA, zsZ, zsS]
  generalize World.setCell _ _ _ = Wq1 at Hq1 hHeld ⊢
  refine wpAnyH_take (i := 6) (oi := { dst := some 23, op := _, type := _, pos := _, after := _, guard := _ }) (v := ?hv6) rfl (by kernel_rfl) (by kernel_rfl) (by kernel_rfl) (fun _ _ _ h => h) (Or.inl ⟨by rfl, ?hy6⟩) (by assumption) ?hr6
  case hy6 => (intro ws hSw; obtain ⟨s1, s2⟩ := hSw; go_simp; try with_reducible rfl)
  try simp only [Act.put, zsA, zsZ, zsS]
  have Hq2 := zh (Hq1.out.grp g HOG.out)
  obtain ⟨f3, f4, f5, f6, f7, f8, f9, fz⟩ := HCF.out _ _ _ _ _ Hq1.out
  refine wpAnyH_ready (rs := [7]) (by kernel_rfl) (by simp) (AllReadyH.cons (o := _) rfl (fun K hK => ?_) AllReadyH.nil)
  go_simp
  refine hK.out _ _ (have hh := HCC.out _ _ _ _ _ Hq2.out; ⟨hh.2.2.1, hh.2.2.2.1⟩) (fun hHeld => ?_)
  clear hK K f3 f4 f5 f6 f7 f8 f9 fz
  try simp only [Act.put, zsA, zsZ, zsS]
  generalize aggO _ _ _ _ = Wq2 at Hq2 hHeld ⊢
  refine wpAnyH_done (by kernel_rfl) ?_ _
  clear c1 c2 c3 c4 c5 c6 c7 c8 c9 ca cb
  obtain ⟨c1, c2, c3, c4, c5, c6, c7, c8, c9, ca, cb⟩ := HCC.out _ _ _ _ _ Hq2.out
  cases b with
  | false =>
    go_wp2_with (go_at_call 123; (with_reducible refine (HX.out _).mono ?_); rintro x w1 ⟨rfl, rfl⟩)
    go_ret
    exact ⟨ret_bool8 (by rw [HRR.out]; rfl), Hq2.out.blw⟩
  | true =>
    cases d with
    | false =>
      go_wp2_with (first
        | (go_at_call 123; (with_reducible refine (HX.out _).mono ?_); rintro x w1 ⟨rfl, rfl⟩)
        | (go_at_call 124; (with_reducible refine (HG.out _).mono ?_); rintro x w3 ⟨rfl, hb3⟩; have H3 := zh (Hq2.out.below hb3); clear hb3))
      go_ret
      exact ⟨ret_bool8 (by rw [HRR.out]; rfl), H3.out.blw⟩
    | true =>
      go_wp2_with (first
        | (go_at_call 123; (with_reducible refine (HX.out _).mono ?_); rintro x w1 ⟨rfl, rfl⟩)
        | (go_at_call 124; (with_reducible refine (HG.out _).mono ?_); rintro x w3 ⟨rfl, hb3⟩; have H3 := zh (Hq2.out.below hb3); clear hb3 c1 c2 c3 c4 c5 c6 c7 c8 c9 ca cb; obtain ⟨c1, c2, c3, c4, c5, c6, c7, c8, c9, ca, cb⟩ := HCC.out _ _ _ _ _ H3.out)
        | (go_at_call 35; (with_reducible refine (HSM.out _ _ _ _ _ H3.out (Ads.nil _) (Rcs.nil _)).mono ?_); rintro x w9 ⟨rfl, hb9⟩; have H9 := zh (H3.out.below hb9); clear hb9))
      go_ret
      exact ⟨ret_bool8 (by rw [HRR.out, hTf.out]; rfl), H9.out.blw⟩
theorem mgood_22 (t : TK) (us ur : Value) (w : World) (ho : t.ok) (hs : Ads w us t.src) (hr : Rcs w ur t.rcs) (hk : t.ver = 2 ∧ t.kind = 2) (R : Bool) (hR : R = good9 t) :
    Calls Tryz.prog 57 #[.agg (tkC t us ur).toArray] w fun x w' => x = .returned (.bool R) ∧ Below w.heap.size w w' := by
  have hog := ho.1
  have H0 := zh (And.intro (TkAt.made w t us ur hog) ((Below.refl w.heap.size w).alloc (Nat.le_refl _) (.cells (tkC t us ur).toArray 28)))
  have HSA := zh (fun W (h : Below w.heap.size w W) => hs.below h)
  have HRA := zh (fun W (h : Below w.heap.size w W) => hr.below h)
  have HOG := zh hog
  obtain ⟨pu, cu, e1, hu1, hu2⟩ := hs.len
  obtain ⟨pr, cr, e2, hr1, hr2⟩ := hr.len
  have hm1 : t.src.length ≤ maxLen := by omega
  unfold maxLen at hm1
  clear hs hr hu1 hu2 hr1 hr2 ho
  obtain ⟨v6, ver, kind, resp, g, quiet, rob, every, src, rcs⟩ := t
  simp only at *
  obtain ⟨rfl, rfl⟩ := hk
  rw [g9_22] at hR
  have HRR := zh hR
  clear hR
  subst e1 e2
  have H0 := zh H0.out
  obtain ⟨T, hT⟩ : ∃ T : TK, T = ⟨v6, 2, 2, resp, g, quiet, rob, every, src, rcs⟩ := ⟨_, rfl⟩
  have HC0 : Hid (∀ W, TkAt W w.heap.size ⟨v6, 2, 2, resp, g, quiet, rob, every, src, rcs⟩ (.slice pu src.length cu) (.slice pr rcs.length cr) → W.cell? ⟨w.heap.size, 1, none⟩ = some (.int .i64 2) ∧ W.cell? ⟨w.heap.size, 2, none⟩ = some (.int .i64 2)) := zh fun W h => ⟨h.ver, h.kind⟩
  have HST := zh (fun W h hb => GE.start9 (w := w) (W := W) (t := ⟨v6, 2, 2, resp, g, quiet, rob, every, src, rcs⟩) (us := .slice pu src.length cu) (ur := .slice pr rcs.length cr) h hb 2 2)
  have hbb := bldr_tkvk9 2 2
  rw [← hT] at H0 HC0 HST ⊢
  try rw [← hT] at HRR
  have hTf : Hid (T = ⟨v6, 2, 2, resp, g, quiet, rob, every, src, rcs⟩) := zh hT
  have HCC : Hid (∀ W m e se re, GE w W m T (.slice pu src.length cu) (.slice pr rcs.length cr) e se re → W.cell? ⟨w.heap.size, 1, none⟩ = some (.int .i64 2) ∧ W.cell? ⟨w.heap.size, 2, none⟩ = some (.int .i64 2) ∧ W.cell? ⟨w.heap.size, 3, none⟩ = some (.int .i64 resp) ∧ row? W w.heap.size 4 17 = some (adC g) ∧ W.cell? ⟨w.heap.size, 21, none⟩ = some (.bool quiet) ∧ W.cell? ⟨w.heap.size, 22, none⟩ = some (.int .i64 rob) ∧ W.cell? ⟨w.heap.size, 23, none⟩ = some (.int .i64 every) ∧ W.cell? ⟨w.heap.size, 24, none⟩ = some (.slice pu src.length cu) ∧ W.cell? ⟨w.heap.size, 25, none⟩ = some (.slice pr rcs.length cr) ∧ row? W w.heap.size 0 26 = some (tkC T (.slice pu src.length cu) (.slice pr rcs.length cr)) ∧ row? W m 0 26 = some (tkC e se re)) := zh fun W m e se re h => by
    have := h.cells
    unfold GEC at this
    rw [hTf.out] at this ⊢
    exact this
  have HSM : Hid (∀ W m e se re, GE w W m T (.slice pu src.length cu) (.slice pr rcs.length cr) e se re → Ads W se e.src → Rcs W re e.rcs → Calls Tryz.prog 35 #[.agg (tkC T (.slice pu src.length cu) (.slice pr rcs.length cr)).toArray, .agg (tkC e se re).toArray] W fun x w' => x = .returned (.bool (decide (T = e))) ∧ Below W.heap.size W w') := zh fun W m e se re h ha hr => same8_any _ _ T e W ⟨h.tk.2, _, _, rfl, by rw [hTf.out]; exact HSA.out _ h.blw, by rw [hTf.out]; exact HRA.out _ h.blw⟩ ⟨h.ek.2, _, _, rfl, ha, hr⟩
  clear hT
  go_enter Tryz.func57, Tryz.ntmps57
  go_upto_region 1 with (fail)
  generalize w.alloc (.cells (tkC T _ _).toArray 28) = W0 at H0 ⊢
  obtain ⟨c1, c2⟩ := HC0.out _ H0.out.1
  have hfk := TM.fok (W := W0) (t := ⟨true, 2, 2, 0, zeroA, false, 0, 0, [], []⟩) (us := .slice none 0 0) (ur := .slice none 0 0) zeroA_ok (Ads.nil W0) (Rcs.nil W0)
  have hfm := hfm26 W0
  have H1 := zh (HST.out W0 H0.out.1 H0.out.2)
  go_upto_region 3 with (fail)
  generalize aggW (W0.alloc _) W0.heap.size _ = W1 at H1 ⊢
  generalize W0.heap.size = m at H1 ⊢
  clear c1 c2 hfk hfm HC0 HST H0 hbb
  obtain ⟨c1, c2, c3, c4, c5, c6, c7, c8, c9, ca, cb⟩ := HCC.out _ _ _ _ _ H1.out
  have q11 : ∀ w0, (Op.equalIn 10000 140 (.agg #[.int .i64 2, .int .i64 2]) (.agg #[.int .i64 1, .int .i64 1])).run Tryz.prog w0 = .ok false w0 := fun w0 => by rw [eq_shp9]; rfl
  have q12 : ∀ w0, (Op.equalIn 10000 140 (.agg #[.int .i64 2, .int .i64 2]) (.agg #[.int .i64 1, .int .i64 2])).run Tryz.prog w0 = .ok false w0 := fun w0 => by rw [eq_shp9]; rfl
  have q13 : ∀ w0, (Op.equalIn 10000 140 (.agg #[.int .i64 2, .int .i64 2]) (.agg #[.int .i64 1, .int .i64 3])).run Tryz.prog w0 = .ok false w0 := fun w0 => by rw [eq_shp9]; rfl
  have q21 : ∀ w0, (Op.equalIn 10000 140 (.agg #[.int .i64 2, .int .i64 2]) (.agg #[.int .i64 2, .int .i64 1])).run Tryz.prog w0 = .ok false w0 := fun w0 => by rw [eq_shp9]; rfl
  have q22 : ∀ w0, (Op.equalIn 10000 140 (.agg #[.int .i64 2, .int .i64 2]) (.agg #[.int .i64 2, .int .i64 2])).run Tryz.prog w0 = .ok true w0 := fun w0 => by rw [eq_shp9]; rfl
  have HCF : Hid (∀ W m e se re, GE w W m T (.slice pu src.length cu) (.slice pr rcs.length cr) e se re → GEF W m e se re) := zh fun W m e se re h => h.cellsf
  have HG := zh (fun W h => records9_any (.slice pr rcs.length cr) rcs W (HRA.out W h))
  generalize recs9 rcs = b at HG HRR
  obtain ⟨f3, f4, f5, f6, f7, f8, f9, fz⟩ := HCF.out _ _ _ _ _ H1.out
  have H2 := zh (H1.out.set 25 (.slice pr rcs.length cr) (tkC_rcs _ _ _ zeroA_ok _ rcs) zeroA_ok)
  go_upto_region 17 with (fail)
  generalize World.setCell W1 _ _ = W2 at H2 ⊢
  clear c1 c2 c3 c4 c5 c6 c7 c8 c9 ca cb f3 f4 f5 f6 f7 f8 f9 fz
  obtain ⟨c1, c2, c3, c4, c5, c6, c7, c8, c9, ca, cb⟩ := HCC.out _ _ _ _ _ H2.out
  cases b with
  | false =>
    go_wp2_with (go_at_call 129; (with_reducible refine (HG.out _ H2.out.blw).mono ?_); rintro x w3 ⟨rfl, hb3⟩; have H3 := zh (H2.out.below hb3); clear hb3)
    go_ret
    exact ⟨ret_bool8 (by rw [HRR.out]; rfl), H3.out.blw⟩
  | true =>
    go_wp2_with (first
      | (go_at_call 129; (with_reducible refine (HG.out _ H2.out.blw).mono ?_); rintro x w3 ⟨rfl, hb3⟩; have H3 := zh (H2.out.below hb3); clear hb3 c1 c2 c3 c4 c5 c6 c7 c8 c9 ca cb; obtain ⟨c1, c2, c3, c4, c5, c6, c7, c8, c9, ca, cb⟩ := HCC.out _ _ _ _ _ H3.out)
      | (go_at_call 35; (with_reducible refine (HSM.out _ _ _ _ _ H3.out (Ads.nil _) (HRA.out _ H3.out.blw)).mono ?_); rintro x w9 ⟨rfl, hb9⟩; have H9 := zh (H3.out.below hb9); clear hb9))
    go_ret
    exact ⟨ret_bool8 (by rw [HRR.out, hTf.out]; rfl), H9.out.blw⟩
theorem mgood_21 (t : TK) (us ur : Value) (w : World) (ho : t.ok) (hs : Ads w us t.src) (hr : Rcs w ur t.rcs) (hk : t.ver = 2 ∧ t.kind = 1) (R : Bool) (hR : R = good9 t) :
    Calls Tryz.prog 57 #[.agg (tkC t us ur).toArray] w fun x w' => x = .returned (.bool R) ∧ Below w.heap.size w w' := by
  have hog := ho.1
  have H0 := zh (And.intro (TkAt.made w t us ur hog) ((Below.refl w.heap.size w).alloc (Nat.le_refl _) (.cells (tkC t us ur).toArray 28)))
  have HSA := zh (fun W (h : Below w.heap.size w W) => hs.below h)
  have HRA := zh (fun W (h : Below w.heap.size w W) => hr.below h)
  have HOG := zh hog
  obtain ⟨pu, cu, e1, hu1, hu2⟩ := hs.len
  obtain ⟨pr, cr, e2, hr1, hr2⟩ := hr.len
  have hm1 : t.src.length ≤ maxLen := by omega
  unfold maxLen at hm1
  clear hs hr hu1 hu2 hr1 hr2 ho
  obtain ⟨v6, ver, kind, resp, g, quiet, rob, every, src, rcs⟩ := t
  simp only at *
  obtain ⟨rfl, rfl⟩ := hk
  rw [g9_21] at hR
  have HRR := zh hR
  clear hR
  subst e1 e2
  have H0 := zh H0.out
  obtain ⟨T, hT⟩ : ∃ T : TK, T = ⟨v6, 2, 1, resp, g, quiet, rob, every, src, rcs⟩ := ⟨_, rfl⟩
  have HC0 : Hid (∀ W, TkAt W w.heap.size ⟨v6, 2, 1, resp, g, quiet, rob, every, src, rcs⟩ (.slice pu src.length cu) (.slice pr rcs.length cr) → W.cell? ⟨w.heap.size, 1, none⟩ = some (.int .i64 2) ∧ W.cell? ⟨w.heap.size, 2, none⟩ = some (.int .i64 1)) := zh fun W h => ⟨h.ver, h.kind⟩
  have HST := zh (fun W h hb => GE.start9 (w := w) (W := W) (t := ⟨v6, 2, 1, resp, g, quiet, rob, every, src, rcs⟩) (us := .slice pu src.length cu) (ur := .slice pr rcs.length cr) h hb 2 1)
  have hbb := bldr_tkvk9 2 1
  rw [← hT] at H0 HC0 HST ⊢
  try rw [← hT] at HRR
  have hTf : Hid (T = ⟨v6, 2, 1, resp, g, quiet, rob, every, src, rcs⟩) := zh hT
  have HCC : Hid (∀ W m e se re, GE w W m T (.slice pu src.length cu) (.slice pr rcs.length cr) e se re → W.cell? ⟨w.heap.size, 1, none⟩ = some (.int .i64 2) ∧ W.cell? ⟨w.heap.size, 2, none⟩ = some (.int .i64 1) ∧ W.cell? ⟨w.heap.size, 3, none⟩ = some (.int .i64 resp) ∧ row? W w.heap.size 4 17 = some (adC g) ∧ W.cell? ⟨w.heap.size, 21, none⟩ = some (.bool quiet) ∧ W.cell? ⟨w.heap.size, 22, none⟩ = some (.int .i64 rob) ∧ W.cell? ⟨w.heap.size, 23, none⟩ = some (.int .i64 every) ∧ W.cell? ⟨w.heap.size, 24, none⟩ = some (.slice pu src.length cu) ∧ W.cell? ⟨w.heap.size, 25, none⟩ = some (.slice pr rcs.length cr) ∧ row? W w.heap.size 0 26 = some (tkC T (.slice pu src.length cu) (.slice pr rcs.length cr)) ∧ row? W m 0 26 = some (tkC e se re)) := zh fun W m e se re h => by
    have := h.cells
    unfold GEC at this
    rw [hTf.out] at this ⊢
    exact this
  have HSM : Hid (∀ W m e se re, GE w W m T (.slice pu src.length cu) (.slice pr rcs.length cr) e se re → Ads W se e.src → Rcs W re e.rcs → Calls Tryz.prog 35 #[.agg (tkC T (.slice pu src.length cu) (.slice pr rcs.length cr)).toArray, .agg (tkC e se re).toArray] W fun x w' => x = .returned (.bool (decide (T = e))) ∧ Below W.heap.size W w') := zh fun W m e se re h ha hr => same8_any _ _ T e W ⟨h.tk.2, _, _, rfl, by rw [hTf.out]; exact HSA.out _ h.blw, by rw [hTf.out]; exact HRA.out _ h.blw⟩ ⟨h.ek.2, _, _, rfl, ha, hr⟩
  clear hT
  go_enter Tryz.func57, Tryz.ntmps57
  go_upto_region 1 with (fail)
  generalize w.alloc (.cells (tkC T _ _).toArray 28) = W0 at H0 ⊢
  obtain ⟨c1, c2⟩ := HC0.out _ H0.out.1
  have hfk := TM.fok (W := W0) (t := ⟨true, 2, 1, 0, zeroA, false, 0, 0, [], []⟩) (us := .slice none 0 0) (ur := .slice none 0 0) zeroA_ok (Ads.nil W0) (Rcs.nil W0)
  have hfm := hfm26 W0
  have H1 := zh (HST.out W0 H0.out.1 H0.out.2)
  go_upto_region 3 with (fail)
  generalize aggW (W0.alloc _) W0.heap.size _ = W1 at H1 ⊢
  generalize W0.heap.size = m at H1 ⊢
  clear c1 c2 hfk hfm HC0 HST H0 hbb
  obtain ⟨c1, c2, c3, c4, c5, c6, c7, c8, c9, ca, cb⟩ := HCC.out _ _ _ _ _ H1.out
  have q11 : ∀ w0, (Op.equalIn 10000 140 (.agg #[.int .i64 2, .int .i64 1]) (.agg #[.int .i64 1, .int .i64 1])).run Tryz.prog w0 = .ok false w0 := fun w0 => by rw [eq_shp9]; rfl
  have q12 : ∀ w0, (Op.equalIn 10000 140 (.agg #[.int .i64 2, .int .i64 1]) (.agg #[.int .i64 1, .int .i64 2])).run Tryz.prog w0 = .ok false w0 := fun w0 => by rw [eq_shp9]; rfl
  have q13 : ∀ w0, (Op.equalIn 10000 140 (.agg #[.int .i64 2, .int .i64 1]) (.agg #[.int .i64 1, .int .i64 3])).run Tryz.prog w0 = .ok false w0 := fun w0 => by rw [eq_shp9]; rfl
  have q21 : ∀ w0, (Op.equalIn 10000 140 (.agg #[.int .i64 2, .int .i64 1]) (.agg #[.int .i64 2, .int .i64 1])).run Tryz.prog w0 = .ok true w0 := fun w0 => by rw [eq_shp9]; rfl
  have q22 : ∀ w0, (Op.equalIn 10000 140 (.agg #[.int .i64 2, .int .i64 1]) (.agg #[.int .i64 2, .int .i64 2])).run Tryz.prog w0 = .ok false w0 := fun w0 => by rw [eq_shp9]; rfl
  have HCF : Hid (∀ W m e se re, GE w W m T (.slice pu src.length cu) (.slice pr rcs.length cr) e se re → GEF W m e se re) := zh fun W m e se re h => h.cellsf
  have hfg : fok (adC g).toArray 17 = true := fok_addr _ _ HOG.out
  have HE1 := zh (fun W => exact16_any resp W)
  have HE2 := zh (fun W => exact8_any every W)
  have HX := zh (fun W => within9_any rob 0 7 W)
  have HG := zh (fun W => target9_any g HOG.out W)
  have HS := zh (fun W h => sources9_any (.slice pu src.length cu) src W (HSA.out W h))
  have HZ := zh (fun W => zero9p_any g HOG.out W)
  generalize exactN resp 4096 65535 = x1 at HE1 HRR
  generalize exactN every 16 255 = x2 at HE2 HRR
  generalize decide (0 ≤ rob ∧ rob ≤ 7) = x3 at HX HRR
  generalize targ9 g = x4 at HG HRR
  generalize srcs9 src = x5 at HS HRR
  generalize zer9 g = zg at HZ HRR
  go_upto_region 12 with (fail)
  have hb0 := And.intro c3 (And.intro c7 (And.intro c6 c5))
  have Hq0 := zh H1.out.drew
  refine wp_region_held_drew (S := fun W => W.cell? ⟨w.heap.size, 3, none⟩ = some (.int .i64 resp) ∧ W.cell? ⟨w.heap.size, 23, none⟩ = some (.int .i64 every) ∧ W.cell? ⟨w.heap.size, 22, none⟩ = some (.int .i64 rob) ∧ W.cell? ⟨w.heap.size, 21, none⟩ = some (.bool quiet)) (by kernel_rfl) (And.intro c3 (And.intro c7 (And.intro c6 c5))) (fun hHeld => ?_)
  clear hb0
  generalize World.drew _ = Wq0 at Hq0 hHeld ⊢
  refine wpAnyH_take (i := 0) (oi := { dst := some 46, op := _, type := _, pos := _, after := _, guard := _ }) (v := ?hv1) rfl (by kernel_rfl) (by kernel_rfl) (by kernel_rfl) (fun _ _ _ h => h) (Or.inl ⟨by rfl, ?hy1⟩) (by assumption) ?hr1
  case hy1 => (intro ws hSw; obtain ⟨s1, s2, s3, s4⟩ := hSw; go_simp; try with_reducible rfl)
  try simp only [Act.put, zsA, zsZ, zsS]
  refine wpAnyH_take (i := 1) (oi := { dst := some 47, op := _, type := _, pos := _, after := _, guard := _ }) (v := ?hv2) rfl (by kernel_rfl) (by kernel_rfl) (by kernel_rfl) (fun _ _ _ h => h) (Or.inl ⟨by rfl, ?hy2⟩) (by assumption) ?hr2
  case hy2 => (intro ws hSw; obtain ⟨s1, s2, s3, s4⟩ := hSw; go_simp; try with_reducible rfl)
  try simp only [Act.put, zsA, zsZ, zsS]
  refine wpAnyH_take (i := 2) (oi := { dst := some 48, op := _, type := _, pos := _, after := _, guard := _ }) (v := ?hv3) rfl (by kernel_rfl) (by kernel_rfl) (by kernel_rfl) (fun _ _ _ h => h) (Or.inl ⟨by rfl, ?hy3⟩) (by assumption) ?hr3
  case hy3 => (intro ws hSw; obtain ⟨s1, s2, s3, s4⟩ := hSw; go_simp; try with_reducible rfl)
  try simp only [Act.put, zsA, zsZ, zsS]
  refine wpAnyH_take (i := 3) (oi := { dst := some 49, op := _, type := _, pos := _, after := _, guard := _ }) (v := ?hv4) rfl (by kernel_rfl) (by kernel_rfl) (by kernel_rfl) (fun _ _ _ h => h) (Or.inl ⟨by rfl, ?hy4⟩) (by assumption) ?hr4
  case hy4 => (intro ws hSw; obtain ⟨s1, s2, s3, s4⟩ := hSw; go_simp; try with_reducible rfl)
  try simp only [Act.put, zsA, zsZ, zsS]
  refine wpAnyH_take (i := 4) (oi := { dst := some 50, op := _, type := _, pos := _, after := _, guard := _ }) (v := ?hv5) rfl (by kernel_rfl) (by kernel_rfl) (by kernel_rfl) (fun _ _ _ h => h) (Or.inl ⟨by rfl, ?hy5⟩) (by assumption) ?hr5
  case hy5 => (intro ws hSw; obtain ⟨s1, s2, s3, s4⟩ := hSw; go_simp; try with_reducible rfl)
  try simp only [Act.put, zsA, zsZ, zsS]
  refine wpAnyH_take (i := 5) (oi := { dst := some 51, op := _, type := _, pos := _, after := _, guard := _ }) (v := ?hv6) rfl (by kernel_rfl) (by kernel_rfl) (by kernel_rfl) (fun _ _ _ h => h) (Or.inl ⟨by rfl, ?hy6⟩) (by assumption) ?hr6
  case hy6 => (intro ws hSw; obtain ⟨s1, s2, s3, s4⟩ := hSw; go_simp; try with_reducible rfl)
  try simp only [Act.put, zsA, zsZ, zsS]
  refine wpAnyH_take (i := 6) (oi := { dst := some 52, op := _, type := _, pos := _, after := _, guard := _ }) (v := ?hv7) rfl (by kernel_rfl) (by kernel_rfl) (by kernel_rfl) (fun _ _ _ h => h) (Or.inl ⟨by rfl, ?hy7⟩) (by assumption) ?hr7
  case hy7 => (intro ws hSw; obtain ⟨s1, s2, s3, s4⟩ := hSw; go_simp; try with_reducible rfl)
  try simp only [Act.put, zsA, zsZ, zsS]
  refine wpAnyH_take (i := 7) (oi := { dst := some 53, op := _, type := _, pos := _, after := _, guard := _ }) (v := ?hv8) rfl (by kernel_rfl) (by kernel_rfl) (by kernel_rfl) (fun _ _ _ h => h) (Or.inl ⟨by rfl, ?hy8⟩) (by assumption) ?hr8
  case hy8 => (intro ws hSw; obtain ⟨s1, s2, s3, s4⟩ := hSw; go_simp; try with_reducible rfl)
  try simp only [Act.put, zsA, zsZ, zsS]
  refine wpAnyH_take (i := 8) (oi := { dst := some 54, op := _, type := _, pos := _, after := _, guard := _ }) (v := ?hv9) rfl (by kernel_rfl) (by kernel_rfl) (by kernel_rfl) (fun _ _ _ h => h) (Or.inl ⟨by rfl, ?hy9⟩) (by assumption) ?hr9
  case hy9 => (intro ws hSw; obtain ⟨s1, s2, s3, s4⟩ := hSw; go_simp; try with_reducible rfl)
  try simp only [Act.put, zsA, zsZ, zsS]
  have Hq1 := zh (Hq0.out.set 3 (.int .i64 resp) (tkC_resp _ _ _ _) zeroA_ok)
  obtain ⟨f3, f4, f5, f6, f7, f8, f9, fz⟩ := HCF.out _ _ _ _ _ Hq0.out
  refine wpAnyH_ready (rs := [9]) (by kernel_rfl) (by simp) (AllReadyH.cons (o := _) rfl (fun K hK => ?_) AllReadyH.nil)
  go_simp
  refine hK.out _ _ (have hh := HCC.out _ _ _ _ _ Hq1.out; ⟨hh.2.2.1, hh.2.2.2.2.2.2.1, hh.2.2.2.2.2.1, hh.2.2.2.2.1⟩) (fun hHeld => ?_)
  clear hK K f3 f4 f5 f6 f7 f8 f9 fz
  try simp only [Act.put, zsA, zsZ, zsS]
  generalize World.setCell _ _ _ = Wq1 at Hq1 hHeld ⊢
  refine wpAnyH_take (i := 10) (oi := { dst := some 55, op := _, type := _, pos := _, after := _, guard := _ }) (v := ?hv10) rfl (by kernel_rfl) (by kernel_rfl) (by kernel_rfl) (fun _ _ _ h => h) (Or.inl ⟨by rfl, ?hy10⟩) (by assumption) ?hr10
  case hy10 => (intro ws hSw; obtain ⟨s1, s2, s3, s4⟩ := hSw; go_simp; try with_reducible rfl)
  try simp only [Act.put, zsA, zsZ, zsS]
  have Hq2 := zh (Hq1.out.set 23 (.int .i64 every) (tkC_every _ _ _ zeroA_ok _) zeroA_ok)
  obtain ⟨f3, f4, f5, f6, f7, f8, f9, fz⟩ := HCF.out _ _ _ _ _ Hq1.out
  refine wpAnyH_ready (rs := [11]) (by kernel_rfl) (by simp) (AllReadyH.cons (o := _) rfl (fun K hK => ?_) AllReadyH.nil)
  go_simp
  refine hK.out _ _ (have hh := HCC.out _ _ _ _ _ Hq2.out; ⟨hh.2.2.1, hh.2.2.2.2.2.2.1, hh.2.2.2.2.2.1, hh.2.2.2.2.1⟩) (fun hHeld => ?_)
  clear hK K f3 f4 f5 f6 f7 f8 f9 fz
  try simp only [Act.put, zsA, zsZ, zsS]
  generalize World.setCell _ _ _ = Wq2 at Hq2 hHeld ⊢
  refine wpAnyH_take (i := 12) (oi := { dst := some 56, op := _, type := _, pos := _, after := _, guard := _ }) (v := ?hv11) rfl (by kernel_rfl) (by kernel_rfl) (by kernel_rfl) (fun _ _ _ h => h) (Or.inl ⟨by rfl, ?hy11⟩) (by assumption) ?hr11
  case hy11 => (intro ws hSw; obtain ⟨s1, s2, s3, s4⟩ := hSw; go_simp; try with_reducible rfl)
  try simp only [Act.put, zsA, zsZ, zsS]
  have Hq3 := zh (Hq2.out.set 22 (.int .i64 rob) (tkC_rob _ _ _ zeroA_ok _) zeroA_ok)
  obtain ⟨f3, f4, f5, f6, f7, f8, f9, fz⟩ := HCF.out _ _ _ _ _ Hq2.out
  refine wpAnyH_ready (rs := [13]) (by kernel_rfl) (by simp) (AllReadyH.cons (o := _) rfl (fun K hK => ?_) AllReadyH.nil)
  go_simp
  refine hK.out _ _ (have hh := HCC.out _ _ _ _ _ Hq3.out; ⟨hh.2.2.1, hh.2.2.2.2.2.2.1, hh.2.2.2.2.2.1, hh.2.2.2.2.1⟩) (fun hHeld => ?_)
  clear hK K f3 f4 f5 f6 f7 f8 f9 fz
  try simp only [Act.put, zsA, zsZ, zsS]
  generalize World.setCell _ _ _ = Wq3 at Hq3 hHeld ⊢
  refine wpAnyH_take (i := 14) (oi := { dst := some 57, op := _, type := _, pos := _, after := _, guard := _ }) (v := ?hv12) rfl (by kernel_rfl) (by kernel_rfl) (by kernel_rfl) (fun _ _ _ h => h) (Or.inl ⟨by rfl, ?hy12⟩) (by assumption) ?hr12
  case hy12 => (intro ws hSw; obtain ⟨s1, s2, s3, s4⟩ := hSw; go_simp; try with_reducible rfl)
  try simp only [Act.put, zsA, zsZ, zsS]
  have Hq4 := zh (Hq3.out.set 21 (.bool quiet) (tkC_quiet _ _ _ zeroA_ok _) zeroA_ok)
  obtain ⟨f3, f4, f5, f6, f7, f8, f9, fz⟩ := HCF.out _ _ _ _ _ Hq3.out
  refine wpAnyH_ready (rs := [15]) (by kernel_rfl) (by simp) (AllReadyH.cons (o := _) rfl (fun K hK => ?_) AllReadyH.nil)
  go_simp
  refine hK.out _ _ (have hh := HCC.out _ _ _ _ _ Hq4.out; ⟨hh.2.2.1, hh.2.2.2.2.2.2.1, hh.2.2.2.2.2.1, hh.2.2.2.2.1⟩) (fun hHeld => ?_)
  clear hK K f3 f4 f5 f6 f7 f8 f9 fz
  try simp only [Act.put, zsA, zsZ, zsS]
  generalize World.setCell _ _ _ = Wq4 at Hq4 hHeld ⊢
  refine wpAnyH_done (by kernel_rfl) ?_ _
  clear c1 c2 c3 c4 c5 c6 c7 c8 c9 ca cb
  have Hz := zh Hq4.out
  clear Hq0 Hq1 Hq2 Hq3 Hq4
  obtain ⟨c1, c2, c3, c4, c5, c6, c7, c8, c9, ca, cb⟩ := HCC.out _ _ _ _ _ Hz.out
  go_upto_region 13 with (fail)
  have hb0 := And.intro c4 c8
  have Hr0 := zh Hz.out.drew
  refine wp_region_held_drew (S := fun W => row? W w.heap.size 4 17 = some (adC g) ∧ W.cell? ⟨w.heap.size, 24, none⟩ = some (.slice pu src.length cu)) (by kernel_rfl) (And.intro c4 c8) (fun hHeld => ?_)
  clear hb0
  generalize World.drew _ = Wr0 at Hr0 hHeld ⊢
  refine wpAnyH_take (i := 0) (oi := { dst := some 58, op := _, type := _, pos := _, after := _, guard := _ }) (v := ?hv21) rfl (by kernel_rfl) (by kernel_rfl) (by kernel_rfl) (fun _ _ _ h => h) (Or.inl ⟨by rfl, ?hy21⟩) (by assumption) ?hr21
  case hy21 => (intro ws hSw; obtain ⟨s1, s2⟩ := hSw; go_simp; try with_reducible rfl)
  try simp only [Act.put, zsA, zsZ, zsS]
  refine wpAnyH_take (i := 1) (oi := { dst := some 59, op := _, type := _, pos := _, after := _, guard := _ }) (v := ?hv22) rfl (by kernel_rfl) (by kernel_rfl) (by kernel_rfl) (fun _ _ _ h => h) (Or.inl ⟨by rfl, ?hy22⟩) (by assumption) ?hr22
  case hy22 => (intro ws hSw; obtain ⟨s1, s2⟩ := hSw; go_simp; try with_reducible rfl)
  try simp only [Act.put, zsA, zsZ, zsS]
  refine wpAnyH_take (i := 2) (oi := { dst := some 60, op := _, type := _, pos := _, after := _, guard := _ }) (v := ?hv23) rfl (by kernel_rfl) (by kernel_rfl) (by kernel_rfl) (fun _ _ _ h => h) (Or.inl ⟨by rfl, ?hy23⟩) (by assumption) ?hr23
  case hy23 => (intro ws hSw; obtain ⟨s1, s2⟩ := hSw; go_simp; try with_reducible rfl)
  try simp only [Act.put, zsA, zsZ, zsS]
  refine wpAnyH_take (i := 3) (oi := { dst := some 61, op := _, type := _, pos := _, after := _, guard := _ }) (v := ?hv24) rfl (by kernel_rfl) (by kernel_rfl) (by kernel_rfl) (fun _ _ _ h => h) (Or.inl ⟨by rfl, ?hy24⟩) (by assumption) ?hr24
  case hy24 => (intro ws hSw; obtain ⟨s1, s2⟩ := hSw; go_simp; try with_reducible rfl)
  try simp only [Act.put, zsA, zsZ, zsS]
  refine wpAnyH_take (i := 4) (oi := { dst := some 62, op := _, type := _, pos := _, after := _, guard := _ }) (v := ?hv25) rfl (by kernel_rfl) (by kernel_rfl) (by kernel_rfl) (fun _ _ _ h => h) (Or.inl ⟨by rfl, ?hy25⟩) (by assumption) ?hr25
  case hy25 => (intro ws hSw; obtain ⟨s1, s2⟩ := hSw; go_simp; try with_reducible rfl)
  try simp only [Act.put, zsA, zsZ, zsS]
  have Hr1 := zh (Hr0.out.grp g HOG.out)
  obtain ⟨f3, f4, f5, f6, f7, f8, f9, fz⟩ := HCF.out _ _ _ _ _ Hr0.out
  refine wpAnyH_ready (rs := [5]) (by kernel_rfl) (by simp) (AllReadyH.cons (o := _) rfl (fun K hK => ?_) AllReadyH.nil)
  go_simp
  refine hK.out _ _ (have hh := HCC.out _ _ _ _ _ Hr1.out; ⟨hh.2.2.2.1, hh.2.2.2.2.2.2.2.1⟩) (fun hHeld => ?_)
  clear hK K f3 f4 f5 f6 f7 f8 f9 fz
  try simp only [Act.put, zsA, zsZ, zsS]
  generalize aggO _ _ _ _ = Wr1 at Hr1 hHeld ⊢
  refine wpAnyH_take (i := 6) (oi := { dst := some 63, op := _, type := _, pos := _, after := _, guard := _ }) (v := ?hv26) rfl (by kernel_rfl) (by kernel_rfl) (by kernel_rfl) (fun _ _ _ h => h) (Or.inl ⟨by rfl, ?hy26⟩) (by assumption) ?hr26
  case hy26 => (intro ws hSw; obtain ⟨s1, s2⟩ := hSw; go_simp; try with_reducible rfl)
  try simp only [Act.put, zsA, zsZ, zsS]
  have Hr2 := zh (Hr1.out.set 24 (.slice pu src.length cu) (tkC_src _ _ _ HOG.out _ src) HOG.out)
  obtain ⟨f3, f4, f5, f6, f7, f8, f9, fz⟩ := HCF.out _ _ _ _ _ Hr1.out
  refine wpAnyH_ready (rs := [7]) (by kernel_rfl) (by simp) (AllReadyH.cons (o := _) rfl (fun K hK => ?_) AllReadyH.nil)
  go_simp
  refine hK.out _ _ (have hh := HCC.out _ _ _ _ _ Hr2.out; ⟨hh.2.2.2.1, hh.2.2.2.2.2.2.2.1⟩) (fun hHeld => ?_)
  clear hK K f3 f4 f5 f6 f7 f8 f9 fz
  try simp only [Act.put, zsA, zsZ, zsS]
  generalize World.setCell _ _ _ = Wr2 at Hr2 hHeld ⊢
  refine wpAnyH_done (by kernel_rfl) ?_ _
  clear c1 c2 c3 c4 c5 c6 c7 c8 c9 ca cb
  obtain ⟨c1, c2, c3, c4, c5, c6, c7, c8, c9, ca, cb⟩ := HCC.out _ _ _ _ _ Hr2.out
  cases x1 with
  | false =>
    go_wp2_with (first
      | (go_at_call 126; (with_reducible refine (HE1.out _).mono ?_); rintro x wk0 ⟨rfl, hbk⟩; have Hk0 := zh (Hr2.out.below hbk); clear hbk c1 c2 c3 c4 c5 c6 c7 c8 c9 ca cb; obtain ⟨c1, c2, c3, c4, c5, c6, c7, c8, c9, ca, cb⟩ := HCC.out _ _ _ _ _ Hk0.out))
    go_ret
    exact ⟨ret_bool8 (by rw [HRR.out]; simp), Hk0.out.blw⟩
  | true =>
    cases x2 with
    | false =>
      go_wp2_with (first
      | (go_at_call 126; (with_reducible refine (HE1.out _).mono ?_); rintro x wk0 ⟨rfl, hbk⟩; have Hk0 := zh (Hr2.out.below hbk); clear hbk c1 c2 c3 c4 c5 c6 c7 c8 c9 ca cb; obtain ⟨c1, c2, c3, c4, c5, c6, c7, c8, c9, ca, cb⟩ := HCC.out _ _ _ _ _ Hk0.out)
      | (go_at_call 119; (with_reducible refine (HE2.out _).mono ?_); rintro x wk1 ⟨rfl, hbk⟩; have Hk1 := zh (Hk0.out.below hbk); clear hbk c1 c2 c3 c4 c5 c6 c7 c8 c9 ca cb; obtain ⟨c1, c2, c3, c4, c5, c6, c7, c8, c9, ca, cb⟩ := HCC.out _ _ _ _ _ Hk1.out))
      go_ret
      exact ⟨ret_bool8 (by rw [HRR.out]; simp), Hk1.out.blw⟩
    | true =>
      cases x3 with
      | false =>
        go_wp2_with (first
      | (go_at_call 126; (with_reducible refine (HE1.out _).mono ?_); rintro x wk0 ⟨rfl, hbk⟩; have Hk0 := zh (Hr2.out.below hbk); clear hbk c1 c2 c3 c4 c5 c6 c7 c8 c9 ca cb; obtain ⟨c1, c2, c3, c4, c5, c6, c7, c8, c9, ca, cb⟩ := HCC.out _ _ _ _ _ Hk0.out)
      | (go_at_call 119; (with_reducible refine (HE2.out _).mono ?_); rintro x wk1 ⟨rfl, hbk⟩; have Hk1 := zh (Hk0.out.below hbk); clear hbk c1 c2 c3 c4 c5 c6 c7 c8 c9 ca cb; obtain ⟨c1, c2, c3, c4, c5, c6, c7, c8, c9, ca, cb⟩ := HCC.out _ _ _ _ _ Hk1.out)
      | (go_at_call 123; (with_reducible refine (HX.out _).mono ?_); rintro x wx ⟨rfl, rfl⟩))
        go_ret
        exact ⟨ret_bool8 (by rw [HRR.out]; simp), Hk1.out.blw⟩
      | true =>
        cases x4 with
        | false =>
          go_wp2_with (first
      | (go_at_call 126; (with_reducible refine (HE1.out _).mono ?_); rintro x wk0 ⟨rfl, hbk⟩; have Hk0 := zh (Hr2.out.below hbk); clear hbk c1 c2 c3 c4 c5 c6 c7 c8 c9 ca cb; obtain ⟨c1, c2, c3, c4, c5, c6, c7, c8, c9, ca, cb⟩ := HCC.out _ _ _ _ _ Hk0.out)
      | (go_at_call 119; (with_reducible refine (HE2.out _).mono ?_); rintro x wk1 ⟨rfl, hbk⟩; have Hk1 := zh (Hk0.out.below hbk); clear hbk c1 c2 c3 c4 c5 c6 c7 c8 c9 ca cb; obtain ⟨c1, c2, c3, c4, c5, c6, c7, c8, c9, ca, cb⟩ := HCC.out _ _ _ _ _ Hk1.out)
      | (go_at_call 123; (with_reducible refine (HX.out _).mono ?_); rintro x wx ⟨rfl, rfl⟩)
      | (go_at_call 124; (with_reducible refine (HG.out _).mono ?_); rintro x wk3 ⟨rfl, hbk⟩; have Hk3 := zh (Hk1.out.below hbk); clear hbk c1 c2 c3 c4 c5 c6 c7 c8 c9 ca cb; obtain ⟨c1, c2, c3, c4, c5, c6, c7, c8, c9, ca, cb⟩ := HCC.out _ _ _ _ _ Hk3.out))
          go_ret
          exact ⟨ret_bool8 (by rw [HRR.out]; simp), Hk3.out.blw⟩
        | true =>
          cases x5 with
          | false =>
            go_wp2_with (first
      | (go_at_call 126; (with_reducible refine (HE1.out _).mono ?_); rintro x wk0 ⟨rfl, hbk⟩; have Hk0 := zh (Hr2.out.below hbk); clear hbk c1 c2 c3 c4 c5 c6 c7 c8 c9 ca cb; obtain ⟨c1, c2, c3, c4, c5, c6, c7, c8, c9, ca, cb⟩ := HCC.out _ _ _ _ _ Hk0.out)
      | (go_at_call 119; (with_reducible refine (HE2.out _).mono ?_); rintro x wk1 ⟨rfl, hbk⟩; have Hk1 := zh (Hk0.out.below hbk); clear hbk c1 c2 c3 c4 c5 c6 c7 c8 c9 ca cb; obtain ⟨c1, c2, c3, c4, c5, c6, c7, c8, c9, ca, cb⟩ := HCC.out _ _ _ _ _ Hk1.out)
      | (go_at_call 123; (with_reducible refine (HX.out _).mono ?_); rintro x wx ⟨rfl, rfl⟩)
      | (go_at_call 124; (with_reducible refine (HG.out _).mono ?_); rintro x wk3 ⟨rfl, hbk⟩; have Hk3 := zh (Hk1.out.below hbk); clear hbk c1 c2 c3 c4 c5 c6 c7 c8 c9 ca cb; obtain ⟨c1, c2, c3, c4, c5, c6, c7, c8, c9, ca, cb⟩ := HCC.out _ _ _ _ _ Hk3.out)
      | (go_at_call 127; (with_reducible refine (HS.out _ Hk3.out.blw).mono ?_); rintro x wk4 ⟨rfl, hbk⟩; have Hk4 := zh (Hk3.out.below hbk); clear hbk c1 c2 c3 c4 c5 c6 c7 c8 c9 ca cb; obtain ⟨c1, c2, c3, c4, c5, c6, c7, c8, c9, ca, cb⟩ := HCC.out _ _ _ _ _ Hk4.out))
            go_ret
            exact ⟨ret_bool8 (by rw [HRR.out]; simp), Hk4.out.blw⟩
          | true =>
            cases zg with
            | false =>
              go_wp2_with (first
      | (go_at_call 126; (with_reducible refine (HE1.out _).mono ?_); rintro x wk0 ⟨rfl, hbk⟩; have Hk0 := zh (Hr2.out.below hbk); clear hbk c1 c2 c3 c4 c5 c6 c7 c8 c9 ca cb; obtain ⟨c1, c2, c3, c4, c5, c6, c7, c8, c9, ca, cb⟩ := HCC.out _ _ _ _ _ Hk0.out)
      | (go_at_call 119; (with_reducible refine (HE2.out _).mono ?_); rintro x wk1 ⟨rfl, hbk⟩; have Hk1 := zh (Hk0.out.below hbk); clear hbk c1 c2 c3 c4 c5 c6 c7 c8 c9 ca cb; obtain ⟨c1, c2, c3, c4, c5, c6, c7, c8, c9, ca, cb⟩ := HCC.out _ _ _ _ _ Hk1.out)
      | (go_at_call 123; (with_reducible refine (HX.out _).mono ?_); rintro x wx ⟨rfl, rfl⟩)
      | (go_at_call 124; (with_reducible refine (HG.out _).mono ?_); rintro x wk3 ⟨rfl, hbk⟩; have Hk3 := zh (Hk1.out.below hbk); clear hbk c1 c2 c3 c4 c5 c6 c7 c8 c9 ca cb; obtain ⟨c1, c2, c3, c4, c5, c6, c7, c8, c9, ca, cb⟩ := HCC.out _ _ _ _ _ Hk3.out)
      | (go_at_call 127; (with_reducible refine (HS.out _ Hk3.out.blw).mono ?_); rintro x wk4 ⟨rfl, hbk⟩; have Hk4 := zh (Hk3.out.below hbk); clear hbk c1 c2 c3 c4 c5 c6 c7 c8 c9 ca cb; obtain ⟨c1, c2, c3, c4, c5, c6, c7, c8, c9, ca, cb⟩ := HCC.out _ _ _ _ _ Hk4.out)
      | (go_at_call 128; (with_reducible refine (HZ.out _).mono ?_); rintro x wk5 ⟨rfl, hbk⟩; have Hk5 := zh (Hk4.out.below hbk); clear hbk c1 c2 c3 c4 c5 c6 c7 c8 c9 ca cb; obtain ⟨c1, c2, c3, c4, c5, c6, c7, c8, c9, ca, cb⟩ := HCC.out _ _ _ _ _ Hk5.out)
      | (go_at_call 35; (with_reducible refine (HSM.out _ _ _ _ _ Hk5.out (HSA.out _ Hk5.out.blw) (Rcs.nil _)).mono ?_); rintro x w9 ⟨rfl, hb9⟩; have H9 := zh (Hk5.out.below hb9); clear hb9))
              go_ret
              exact ⟨ret_bool8 (by rw [HRR.out, hTf.out]; rfl), H9.out.blw⟩
            | true =>
              by_cases hn : src.length = 0
              · have hn1 : ((src.length : Int) == 0) = true := by simp [hn]
                have hn2 : decide (src.length = 0) = true := decide_eq_true hn
                have hn3 : decide ((src.length : Int) = 0) = true := decide_eq_true (by omega)
                have HN := zh (And.intro hn2 (show src = [] from List.eq_nil_of_length_eq_zero hn))
                clear hn
                go_wp2_with (first
      | (go_at_call 126; (with_reducible refine (HE1.out _).mono ?_); rintro x wk0 ⟨rfl, hbk⟩; have Hk0 := zh (Hr2.out.below hbk); clear hbk c1 c2 c3 c4 c5 c6 c7 c8 c9 ca cb; obtain ⟨c1, c2, c3, c4, c5, c6, c7, c8, c9, ca, cb⟩ := HCC.out _ _ _ _ _ Hk0.out)
      | (go_at_call 119; (with_reducible refine (HE2.out _).mono ?_); rintro x wk1 ⟨rfl, hbk⟩; have Hk1 := zh (Hk0.out.below hbk); clear hbk c1 c2 c3 c4 c5 c6 c7 c8 c9 ca cb; obtain ⟨c1, c2, c3, c4, c5, c6, c7, c8, c9, ca, cb⟩ := HCC.out _ _ _ _ _ Hk1.out)
      | (go_at_call 123; (with_reducible refine (HX.out _).mono ?_); rintro x wx ⟨rfl, rfl⟩)
      | (go_at_call 124; (with_reducible refine (HG.out _).mono ?_); rintro x wk3 ⟨rfl, hbk⟩; have Hk3 := zh (Hk1.out.below hbk); clear hbk c1 c2 c3 c4 c5 c6 c7 c8 c9 ca cb; obtain ⟨c1, c2, c3, c4, c5, c6, c7, c8, c9, ca, cb⟩ := HCC.out _ _ _ _ _ Hk3.out)
      | (go_at_call 127; (with_reducible refine (HS.out _ Hk3.out.blw).mono ?_); rintro x wk4 ⟨rfl, hbk⟩; have Hk4 := zh (Hk3.out.below hbk); clear hbk c1 c2 c3 c4 c5 c6 c7 c8 c9 ca cb; obtain ⟨c1, c2, c3, c4, c5, c6, c7, c8, c9, ca, cb⟩ := HCC.out _ _ _ _ _ Hk4.out)
      | (go_at_call 128; (with_reducible refine (HZ.out _).mono ?_); rintro x wk5 ⟨rfl, hbk⟩; have Hk5 := zh (Hk4.out.below hbk); clear hbk c1 c2 c3 c4 c5 c6 c7 c8 c9 ca cb; obtain ⟨c1, c2, c3, c4, c5, c6, c7, c8, c9, ca, cb⟩ := HCC.out _ _ _ _ _ Hk5.out)
      | (go_at_call 35; (with_reducible refine (HSM.out _ _ _ _ _ Hk5.out (HSA.out _ Hk5.out.blw) (Rcs.nil _)).mono ?_); rintro x w9 ⟨rfl, hb9⟩; have H9 := zh (Hk5.out.below hb9); clear hb9))
                go_ret
                exact ⟨ret_bool8 (by rw [HRR.out, hTf.out, HN.out.1]; rfl), H9.out.blw⟩
              · have hn1 : ((src.length : Int) == 0) = false := by simp; exact fun h => hn (by rw [h]; rfl)
                have hn2 : decide (src.length = 0) = false := decide_eq_false hn
                have hn3 : decide ((src.length : Int) = 0) = false := decide_eq_false (by omega)
                have HN := zh hn2
                clear hn
                go_wp2_with (first
      | (go_at_call 126; (with_reducible refine (HE1.out _).mono ?_); rintro x wk0 ⟨rfl, hbk⟩; have Hk0 := zh (Hr2.out.below hbk); clear hbk c1 c2 c3 c4 c5 c6 c7 c8 c9 ca cb; obtain ⟨c1, c2, c3, c4, c5, c6, c7, c8, c9, ca, cb⟩ := HCC.out _ _ _ _ _ Hk0.out)
      | (go_at_call 119; (with_reducible refine (HE2.out _).mono ?_); rintro x wk1 ⟨rfl, hbk⟩; have Hk1 := zh (Hk0.out.below hbk); clear hbk c1 c2 c3 c4 c5 c6 c7 c8 c9 ca cb; obtain ⟨c1, c2, c3, c4, c5, c6, c7, c8, c9, ca, cb⟩ := HCC.out _ _ _ _ _ Hk1.out)
      | (go_at_call 123; (with_reducible refine (HX.out _).mono ?_); rintro x wx ⟨rfl, rfl⟩)
      | (go_at_call 124; (with_reducible refine (HG.out _).mono ?_); rintro x wk3 ⟨rfl, hbk⟩; have Hk3 := zh (Hk1.out.below hbk); clear hbk c1 c2 c3 c4 c5 c6 c7 c8 c9 ca cb; obtain ⟨c1, c2, c3, c4, c5, c6, c7, c8, c9, ca, cb⟩ := HCC.out _ _ _ _ _ Hk3.out)
      | (go_at_call 127; (with_reducible refine (HS.out _ Hk3.out.blw).mono ?_); rintro x wk4 ⟨rfl, hbk⟩; have Hk4 := zh (Hk3.out.below hbk); clear hbk c1 c2 c3 c4 c5 c6 c7 c8 c9 ca cb; obtain ⟨c1, c2, c3, c4, c5, c6, c7, c8, c9, ca, cb⟩ := HCC.out _ _ _ _ _ Hk4.out)
      | (go_at_call 128; (with_reducible refine (HZ.out _).mono ?_); rintro x wk5 ⟨rfl, hbk⟩; have Hk5 := zh (Hk4.out.below hbk); clear hbk c1 c2 c3 c4 c5 c6 c7 c8 c9 ca cb; obtain ⟨c1, c2, c3, c4, c5, c6, c7, c8, c9, ca, cb⟩ := HCC.out _ _ _ _ _ Hk5.out))
                go_ret
                exact ⟨ret_bool8 (by rw [HRR.out, HN.out]; rfl), Hk5.out.blw⟩
theorem good9_any (t : TK) (us ur : Value) (w : World) (ho : t.ok) (hs : Ads w us t.src) (hr : Rcs w ur t.rcs) (hL : t.rcs.length ≤ 1000) : Calls Tryz.prog 57 #[.agg (tkC t us ur).toArray] w fun x w' => x = .returned (.bool (good9 t)) ∧ Below w.heap.size w w' := by
  by_cases h1 : t.ver = 1 ∧ t.kind = 1
  · exact mgood_11 t us ur w ho hs hr h1 _ rfl
  by_cases h2 : t.ver = 1 ∧ t.kind = 2
  · exact mgood_12 t us ur w ho hs hr h2 _ rfl
  by_cases h3 : t.ver = 1 ∧ t.kind = 3
  · exact mgood_13 t us ur w ho hs hr h3 _ rfl
  by_cases h4 : t.ver = 2 ∧ t.kind = 1
  · exact mgood_21 t us ur w ho hs hr h4 _ rfl
  by_cases h5 : t.ver = 2 ∧ t.kind = 2
  · exact mgood_22 t us ur w ho hs hr h5 _ rfl
  exact mgood_no t us ur w ho hs hr ⟨h1, h2, h3, h4, h5⟩ _ rfl
end Go.Proofs.YtlbdehegknehiaaGreat
