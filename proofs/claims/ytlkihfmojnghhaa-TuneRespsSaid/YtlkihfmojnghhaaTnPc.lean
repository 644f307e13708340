/-
  Layer 14: the program's Query.
-/
import Derived.Test.YtlkihfmojnghhaaTnPb
namespace Go.Proofs.Ytlkihfmojnghhaa
open Go.RowKit
set_option linter.unusedVariables false
set_option linter.unusedSimpArgs false
attribute [local go_sem ↓] ld_addr st_addr bld_addr ld_tk st_tk bld_tk ld_tn st_tn bld_tn
attribute [local go_sem] ldr_addr str_addr ldr_tk str_tk ldr_tn str_tn row?_drewN_eq row?_drew_eq
attribute [local go_sem ↓] bld_addr
theorem bld_shp14 (p : Array (Nat × Value)) : Instr.build 50 p = aggBuild 50 p := rfl
theorem bldr_shp14 (a : Bool) (b : Int) (w : World) : (aggBuild 50 #[(0, .bool a), (1, .int .i64 b)]).run Try.prog w = .ok (.agg #[.bool a, .int .i64 b]) w := bld_run _ _ _ (by kernel_rfl) _
theorem eq_shp14_d (d : Nat) (a c : Bool) (b e : Int) (w : World) : (Op.equalIn (d + 1 + 1) 50 (.agg #[.bool a, .int .i64 b]) (.agg #[.bool c, .int .i64 e])).run Try.prog w = .ok (decide (a = c) && decide (b = e)) w := by
  have hf : Try.prog.underlying 50 = some (.struct (Try.prog.fieldsOf 50)) := by
    have h := Try.underlying50
    rw [Program.fieldsOf, h]
  have q1 : (part 4 #[.bool a, .int .i64 b] 0).run Try.prog w = .ok (.bool a) w := run_part_plain w (by kernel_rfl) rfl
  have q2 : (part 4 #[.bool c, .int .i64 e] 0).run Try.prog w = .ok (.bool c) w := run_part_plain w (by kernel_rfl) rfl
  have q3 : (part 3 #[.bool a, .int .i64 b] 1).run Try.prog w = .ok (.int .i64 b) w := run_part_plain w (by kernel_rfl) rfl
  have q4 : (part 3 #[.bool c, .int .i64 e] 1).run Try.prog w = .ok (.int .i64 e) w := run_part_plain w (by kernel_rfl) rfl
  have q5 : ∀ x y : Int, (Op.equalIn (d + 1) 3 (.int .i64 x) (.int .i64 y)).run Try.prog w = .ok (decide (x = y)) w := fun x y => by
    rw [run_equalIn_int w d 3 .i64 .i64 _ _ Try.underlying3]; congr 1
  have q6 : ∀ x y : Bool, (Op.equalIn (d + 1) 4 (.bool x) (.bool y)).run Try.prog w = .ok (decide (x = y)) w := fun x y => by
    rw [run_equalIn_bool w d 4 _ _ Try.underlying4]; rfl
  have hF : (Try.prog.fieldsOf 50).toList.map (fun f => (f.name, f.type, f.offset)) = [("v6", 4, 0), ("version", 3, 1)] := by kernel_rfl
  rw [run_equalIn_struct w (d + 1) _ _ _ hf (by kernel_rfl)]
  generalize (Try.prog.fieldsOf 50).toList = fs at hF
  obtain ⟨f, fs1, rfl, hf1, hF1⟩ := List.map_eq_cons_iff.1 hF
  obtain ⟨g, fs2, rfl, hg1, hF2⟩ := List.map_eq_cons_iff.1 hF1
  obtain rfl := List.map_eq_nil_iff.1 hF2
  simp only [Prod.mk.injEq] at hf1 hg1
  obtain ⟨n1, n2, n3⟩ := hf1
  obtain ⟨n4, n5, n6⟩ := hg1
  simp only [Op.eqFields, n1, n2, n3, n4, n5, n6, ne_eq, String.reduceEq, not_false_eq_true, if_true, Sem.run_bind, q1, q2, q3, q4, q5, q6, Result.andThen_ok]
  by_cases h1 : a = c
  · subst h1
    by_cases h2 : b = e
    · subst h2; simp [q3, q5, Result.andThen_ok]
    · simp [q3, q4, q5, h2, Result.andThen_ok]
  · simp [h1]
theorem eq_shp14 (a c : Bool) (b e : Int) (w : World) : (Op.equalIn 10000 50 (.agg #[.bool a, .int .i64 b]) (.agg #[.bool c, .int .i64 e])).run Try.prog w = .ok (decide (a = c) && decide (b = e)) w := eq_shp14_d 9998 a c b e w
attribute [local go_sem ↓] bld_shp14
attribute [local go_sem] bldr_shp14

theorem Qr.belowS {w : World} {m : Nat} {t : TN} {e : TK} (W W' : World) (h : Qr w W m t e) (hb : Below W.heap.size W W') : Qr w W' m t e := h.below hb
set_option maxRecDepth 100000 in
set_option maxHeartbeats 4000000 in
theorem tqry14_false1 (t : TN) (n : Int) (hg : gdN t = true) (hv : verQ false n = 1) (w : World) : Calls Try.prog 21 #[.agg (tnC t).toArray, .bool false, .int .i64 n] w fun x w' => x = .returned (.agg (tkC (queryT t false n) (.slice none 0 0) (.slice none 0 0)).toArray) ∧ Below w.heap.size w w' := by
  obtain ⟨tr, te, m, tl, tc⟩ := t
  have hb := gdN_iff.1 hg
  simp only at hb
  have hb2 : 1 ≤ m ∧ m ≤ 31744 ∧ 0 ≤ te ∧ 1 ≤ tr ∧ tr ≤ 7 := by omega
  have H0 := Lib.hid (Bx.made w (tnC ⟨tr, te, m, tl, tc⟩).toArray 23 #[.bool false, .int .i64 0, .int .i64 0, .int .i64 0, .bool false, .int .u8 0, .int .u8 0, .int .u8 0, .int .u8 0, .int .u8 0, .int .u8 0, .int .u8 0, .int .u8 0, .int .u8 0, .int .u8 0, .int .u8 0, .int .u8 0, .int .u8 0, .int .u8 0, .int .u8 0, .int .u8 0, .bool false, .int .i64 0, .int .i64 0, .slice none 0 0, .slice none 0 0] 35)
  obtain ⟨P, hP⟩ : ∃ P : Int, P = 0 := ⟨_, rfl⟩
  obtain ⟨Y, hY⟩ : ∃ Y : Int, Y = (valN (codeN (te / 10) 16 255) 16 : Int) := ⟨_, rfl⟩
  obtain ⟨K, hK⟩ : ∃ K, K = queryT ⟨tr, te, m, tl, tc⟩ false n := ⟨_, rfl⟩
  rw [← hK]
  have HE : Hid (K = ⟨false, 1, 1, P, (false, z16), false, 0, 0, [], []⟩) := Lib.hid (by rw [hK, hP]; unfold queryT; rw [hv]; simp [queryV, newV])
  have HL : Hid (∀ W, Calls Try.prog 29 #[.bool false] W fun x w' => x = .returned (.int .i64 3) ∧ W = w') := Lib.hid fun W => tlatest_any false W
  have HW : Hid (∀ W, Calls Try.prog 30 #[.int .i64 n, .int .i64 1, .int .i64 3] W fun x w' => x = .returned (.int .i64 1) ∧ W = w') := Lib.hid fun W => by
    have := tclamp_any n 1 3 (by omega) W
    rwa [show clampI n 1 3 = 1 from (show clampI n 1 3 = verQ false n from rfl).trans hv] at this
  have q0 : ∀ w0, (Op.equalIn 10000 50 (.agg #[.bool false, .int .i64 1]) (.agg #[.bool false, .int .i64 1])).run Try.prog w0 = .ok true w0 := fun w0 => by rw [eq_shp14]; rfl
  have q1 : ∀ w0, (Op.equalIn 10000 50 (.agg #[.bool false, .int .i64 1]) (.agg #[.bool false, .int .i64 2])).run Try.prog w0 = .ok false w0 := fun w0 => by rw [eq_shp14]; rfl
  have q2 : ∀ w0, (Op.equalIn 10000 50 (.agg #[.bool false, .int .i64 1]) (.agg #[.bool false, .int .i64 3])).run Try.prog w0 = .ok false w0 := fun w0 => by rw [eq_shp14]; rfl
  have q3 : ∀ w0, (Op.equalIn 10000 50 (.agg #[.bool false, .int .i64 1]) (.agg #[.bool true, .int .i64 1])).run Try.prog w0 = .ok false w0 := fun w0 => by rw [eq_shp14]; rfl
  have q4 : ∀ w0, (Op.equalIn 10000 50 (.agg #[.bool false, .int .i64 1]) (.agg #[.bool true, .int .i64 2])).run Try.prog w0 = .ok false w0 := fun w0 => by rw [eq_shp14]; rfl
  have hbA := fun w0 => bld_vq false w0
  have hbT := fun w0 => bld_tkq false 1 w0
  have hfk : fok (tkC ⟨false, 1, 1, 0, (false, z16), false, 0, 0, [], []⟩ (.slice none 0 0) (.slice none 0 0)).toArray 26 = true := fok_tk (z16_ok _) rfl rfl
  have hfe : fok (tkC ⟨false, 1, 1, P, (false, z16), false, 0, 0, [], []⟩ (.slice none 0 0) (.slice none 0 0)).toArray 26 = true := fok_tk (z16_ok _) rfl rfl
  have hfm := fun W => fmade W #[.bool false, .int .i64 0, .int .i64 0, .int .i64 0, .bool false, .int .u8 0, .int .u8 0, .int .u8 0, .int .u8 0, .int .u8 0, .int .u8 0, .int .u8 0, .int .u8 0, .int .u8 0, .int .u8 0, .int .u8 0, .int .u8 0, .int .u8 0, .int .u8 0, .int .u8 0, .int .u8 0, .bool false, .int .i64 0, .int .i64 0, .slice none 0 0, .slice none 0 0] 35 26 rfl
  subst hP
  clear hY hK hg hb hv
  go_enter Try.func21, Try.ntmps21
  go_upto_region 1 with (fail)
  generalize (w.alloc _).alloc _ = W at H0 ⊢
  go_upto_region 2 with (first
    | (go_at_call 29; (with_reducible refine (HL.out _).mono ?_); rintro x w1 ⟨rfl, rfl⟩)
    | (go_at_call 30; (with_reducible refine (HW.out _).mono ?_); rintro x w1 ⟨rfl, rfl⟩))
  have H1 := Lib.hid (Qr.start H0.out ⟨false, 1, 1, 0, (false, z16), false, 0, 0, [], []⟩ (z16_ok _))
  generalize aggW (W.alloc _) W.heap.size _ = W1 at H1 ⊢
  generalize W.heap.size = mm at H1 ⊢
  clear H0 hbA hbT hfm HW
  obtain ⟨c0, c1, c2, d3, d6, d7, f3, f6, f7, rt, fr⟩ := H1.out.facts
  have c9 := fun W (h : Qr w W mm ⟨tr, te, m, tl, tc⟩ ⟨false, 1, 1, 0, (false, z16), false, 0, 0, [], []⟩) => h.tk.ver
  simp only at c0 c1 c2 d3 d6 d7 c9
  have c10 := c9 _ H1.out
  go_upto_region 12 with (fail)
  have H3 := H1
  clear H1 c0 c1 c2 d3 d6 d7 f3 f6 f7 rt fr c9 c10
  have f1 : ∀ p : InS (fun W => Qr w W mm ⟨tr, te, m, tl, tc⟩ ⟨false, 1, 1, 0, (false, z16), false, 0, 0, [], []⟩), p.W.cell? ⟨mm, 1, none⟩ = some (.int .i64 1) := fun p => p.h.tk.ver
  have hne : Nonempty (InS (fun W => Qr w W mm ⟨tr, te, m, tl, tc⟩ ⟨false, 1, 1, 0, (false, z16), false, 0, 0, [], []⟩)) := ⟨⟨_, H3.out⟩⟩
  refine wp_region_inS (fun W => Qr w W mm ⟨tr, te, m, tl, tc⟩ ⟨false, 1, 1, 0, (false, z16), false, 0, 0, [], []⟩) (by kernel_rfl) (by kernel_rfl) (Qr.belowS _ _ H3.out (bdrewN (Below.refl _ _) 1)) ?_
  repeat (go_big_quiet_step (first
    | (go_at_call 29; with_reducible exact Calls.inS Qr.belowS _ (fun W _ => (HL.out W).mono fun _ _ h => ⟨h.1, h.2 ▸ Below.refl _ _⟩))))
  refine wpQuiet_nil ?_
  rintro _ ⟨⟨W2, hS2⟩, rfl⟩
  have H2 := Lib.hid hS2
  clear hS2 hne f1
  clear H3
  obtain ⟨c0, c1, c2, d3, d6, d7, f3, f6, f7, rt, fr⟩ := H2.out.facts
  simp only at c0 c1 c2 d3 d6 d7
  go_wp2
  obtain ⟨y1, y2⟩ := resDone H2.out.res H2.out.blw (by omega) (tkC ⟨false, 1, 1, 0, (false, z16), false, 0, 0, [], []⟩ (.slice none 0 0) (.slice none 0 0)) (by rw [tkC_length (z16_ok _)]; rfl)
  exact bodyPost_ret (results_cell Try.results21 rfl (ld_some y1 (ldr_tk _ _ _))) rfl ⟨by rw [HE.out], y2⟩
set_option maxRecDepth 100000 in
set_option maxHeartbeats 4000000 in
theorem tqry14_false2 (t : TN) (n : Int) (hg : gdN t = true) (hv : verQ false n = 2) (w : World) : Calls Try.prog 21 #[.agg (tnC t).toArray, .bool false, .int .i64 n] w fun x w' => x = .returned (.agg (tkC (queryT t false n) (.slice none 0 0) (.slice none 0 0)).toArray) ∧ Below w.heap.size w w' := by
  obtain ⟨tr, te, m, tl, tc⟩ := t
  have hb := gdN_iff.1 hg
  simp only at hb
  have hb2 : 1 ≤ m ∧ m ≤ 31744 ∧ 0 ≤ te ∧ 1 ≤ tr ∧ tr ≤ 7 := by omega
  have H0 := Lib.hid (Bx.made w (tnC ⟨tr, te, m, tl, tc⟩).toArray 23 #[.bool false, .int .i64 0, .int .i64 0, .int .i64 0, .bool false, .int .u8 0, .int .u8 0, .int .u8 0, .int .u8 0, .int .u8 0, .int .u8 0, .int .u8 0, .int .u8 0, .int .u8 0, .int .u8 0, .int .u8 0, .int .u8 0, .int .u8 0, .int .u8 0, .int .u8 0, .int .u8 0, .bool false, .int .i64 0, .int .i64 0, .slice none 0 0, .slice none 0 0] 35)
  obtain ⟨P, hP⟩ : ∃ P : Int, P = min m 255 := ⟨_, rfl⟩
  obtain ⟨Y, hY⟩ : ∃ Y : Int, Y = (valN (codeN (te / 10) 16 255) 16 : Int) := ⟨_, rfl⟩
  obtain ⟨K, hK⟩ : ∃ K, K = queryT ⟨tr, te, m, tl, tc⟩ false n := ⟨_, rfl⟩
  rw [← hK]
  have HE : Hid (K = ⟨false, 2, 1, P, (false, z16), false, 0, 0, [], []⟩) := Lib.hid (by rw [hK, hP]; unfold queryT; rw [hv]; simp [queryV, newV])
  have HL : Hid (∀ W, Calls Try.prog 29 #[.bool false] W fun x w' => x = .returned (.int .i64 3) ∧ W = w') := Lib.hid fun W => tlatest_any false W
  have HW : Hid (∀ W, Calls Try.prog 30 #[.int .i64 n, .int .i64 1, .int .i64 3] W fun x w' => x = .returned (.int .i64 2) ∧ W = w') := Lib.hid fun W => by
    have := tclamp_any n 1 3 (by omega) W
    rwa [show clampI n 1 3 = 2 from (show clampI n 1 3 = verQ false n from rfl).trans hv] at this
  have HV : Hid (∀ W, Calls Try.prog 30 #[.int .i64 m, .int .i64 1, .int .i64 255] W fun x w' => x = .returned (.int .i64 P) ∧ W = w') := Lib.hid fun W => by
    have := tclamp_any m 1 255 (by omega) W
    rwa [show clampI m 1 255 = P by rw [hP]; unfold clampI; rw [if_neg (by omega)]; split <;> omega] at this
  have q0 : ∀ w0, (Op.equalIn 10000 50 (.agg #[.bool false, .int .i64 2]) (.agg #[.bool false, .int .i64 1])).run Try.prog w0 = .ok false w0 := fun w0 => by rw [eq_shp14]; rfl
  have q1 : ∀ w0, (Op.equalIn 10000 50 (.agg #[.bool false, .int .i64 2]) (.agg #[.bool false, .int .i64 2])).run Try.prog w0 = .ok true w0 := fun w0 => by rw [eq_shp14]; rfl
  have q2 : ∀ w0, (Op.equalIn 10000 50 (.agg #[.bool false, .int .i64 2]) (.agg #[.bool false, .int .i64 3])).run Try.prog w0 = .ok false w0 := fun w0 => by rw [eq_shp14]; rfl
  have q3 : ∀ w0, (Op.equalIn 10000 50 (.agg #[.bool false, .int .i64 2]) (.agg #[.bool true, .int .i64 1])).run Try.prog w0 = .ok false w0 := fun w0 => by rw [eq_shp14]; rfl
  have q4 : ∀ w0, (Op.equalIn 10000 50 (.agg #[.bool false, .int .i64 2]) (.agg #[.bool true, .int .i64 2])).run Try.prog w0 = .ok false w0 := fun w0 => by rw [eq_shp14]; rfl
  have hbA := fun w0 => bld_vq false w0
  have hbT := fun w0 => bld_tkq false 2 w0
  have hfk : fok (tkC ⟨false, 2, 1, 0, (false, z16), false, 0, 0, [], []⟩ (.slice none 0 0) (.slice none 0 0)).toArray 26 = true := fok_tk (z16_ok _) rfl rfl
  have hfe : fok (tkC ⟨false, 2, 1, P, (false, z16), false, 0, 0, [], []⟩ (.slice none 0 0) (.slice none 0 0)).toArray 26 = true := fok_tk (z16_ok _) rfl rfl
  have hfm := fun W => fmade W #[.bool false, .int .i64 0, .int .i64 0, .int .i64 0, .bool false, .int .u8 0, .int .u8 0, .int .u8 0, .int .u8 0, .int .u8 0, .int .u8 0, .int .u8 0, .int .u8 0, .int .u8 0, .int .u8 0, .int .u8 0, .int .u8 0, .int .u8 0, .int .u8 0, .int .u8 0, .int .u8 0, .bool false, .int .i64 0, .int .i64 0, .slice none 0 0, .slice none 0 0] 35 26 rfl
  clear hP
  clear hY hK hg hb hv
  go_enter Try.func21, Try.ntmps21
  go_upto_region 1 with (fail)
  generalize (w.alloc _).alloc _ = W at H0 ⊢
  go_upto_region 2 with (first
    | (go_at_call 29; (with_reducible refine (HL.out _).mono ?_); rintro x w1 ⟨rfl, rfl⟩)
    | (go_at_call 30; (with_reducible refine (HW.out _).mono ?_); rintro x w1 ⟨rfl, rfl⟩))
  have H1 := Lib.hid (Qr.start H0.out ⟨false, 2, 1, 0, (false, z16), false, 0, 0, [], []⟩ (z16_ok _))
  generalize aggW (W.alloc _) W.heap.size _ = W1 at H1 ⊢
  generalize W.heap.size = mm at H1 ⊢
  clear H0 hbA hbT hfm HW
  obtain ⟨c0, c1, c2, d3, d6, d7, f3, f6, f7, rt, fr⟩ := H1.out.facts
  have c9 := fun W (h : Qr w W mm ⟨tr, te, m, tl, tc⟩ ⟨false, 2, 1, 0, (false, z16), false, 0, 0, [], []⟩) => h.tk.ver
  simp only at c0 c1 c2 d3 d6 d7 c9
  have c10 := c9 _ H1.out
  go_upto_region 12 with (first
    | (go_at_call 30; (with_reducible refine (HV.out _).mono ?_); rintro x w1 ⟨rfl, rfl⟩))
  have H3 := Lib.hid (H1.out.set 3 (.int .i64 P) (e' := ⟨false, 2, 1, P, (false, z16), false, 0, 0, [], []⟩) rfl (z16_ok _))
  generalize World.setCell _ _ _ = W3 at H3 ⊢
  clear H1 c0 c1 c2 d3 d6 d7 f3 f6 f7 rt fr c9 c10
  have f1 : ∀ p : InS (fun W => Qr w W mm ⟨tr, te, m, tl, tc⟩ ⟨false, 2, 1, P, (false, z16), false, 0, 0, [], []⟩), p.W.cell? ⟨mm, 1, none⟩ = some (.int .i64 2) := fun p => p.h.tk.ver
  have hne : Nonempty (InS (fun W => Qr w W mm ⟨tr, te, m, tl, tc⟩ ⟨false, 2, 1, P, (false, z16), false, 0, 0, [], []⟩)) := ⟨⟨_, H3.out⟩⟩
  refine wp_region_inS (fun W => Qr w W mm ⟨tr, te, m, tl, tc⟩ ⟨false, 2, 1, P, (false, z16), false, 0, 0, [], []⟩) (by kernel_rfl) (by kernel_rfl) (Qr.belowS _ _ H3.out (bdrewN (Below.refl _ _) 1)) ?_
  repeat (go_big_quiet_step (first
    | (go_at_call 29; with_reducible exact Calls.inS Qr.belowS _ (fun W _ => (HL.out W).mono fun _ _ h => ⟨h.1, h.2 ▸ Below.refl _ _⟩))))
  refine wpQuiet_nil ?_
  rintro _ ⟨⟨W2, hS2⟩, rfl⟩
  have H2 := Lib.hid hS2
  clear hS2 hne f1
  clear H3
  obtain ⟨c0, c1, c2, d3, d6, d7, f3, f6, f7, rt, fr⟩ := H2.out.facts
  simp only at c0 c1 c2 d3 d6 d7
  go_wp2
  obtain ⟨y1, y2⟩ := resDone H2.out.res H2.out.blw (by omega) (tkC ⟨false, 2, 1, P, (false, z16), false, 0, 0, [], []⟩ (.slice none 0 0) (.slice none 0 0)) (by rw [tkC_length (z16_ok _)]; rfl)
  exact bodyPost_ret (results_cell Try.results21 rfl (ld_some y1 (ldr_tk _ _ _))) rfl ⟨by rw [HE.out], y2⟩
set_option maxRecDepth 100000 in
set_option maxHeartbeats 4000000 in
theorem tqry14_false3 (t : TN) (n : Int) (hg : gdN t = true) (hv : verQ false n = 3) (w : World) : Calls Try.prog 21 #[.agg (tnC t).toArray, .bool false, .int .i64 n] w fun x w' => x = .returned (.agg (tkC (queryT t false n) (.slice none 0 0) (.slice none 0 0)).toArray) ∧ Below w.heap.size w w' := by
  obtain ⟨tr, te, m, tl, tc⟩ := t
  have hb := gdN_iff.1 hg
  simp only at hb
  have hb2 : 1 ≤ m ∧ m ≤ 31744 ∧ 0 ≤ te ∧ 1 ≤ tr ∧ tr ≤ 7 := by omega
  have H0 := Lib.hid (Bx.made w (tnC ⟨tr, te, m, tl, tc⟩).toArray 23 #[.bool false, .int .i64 0, .int .i64 0, .int .i64 0, .bool false, .int .u8 0, .int .u8 0, .int .u8 0, .int .u8 0, .int .u8 0, .int .u8 0, .int .u8 0, .int .u8 0, .int .u8 0, .int .u8 0, .int .u8 0, .int .u8 0, .int .u8 0, .int .u8 0, .int .u8 0, .int .u8 0, .bool false, .int .i64 0, .int .i64 0, .slice none 0 0, .slice none 0 0] 35)
  obtain ⟨P, hP⟩ : ∃ P : Int, P = (valN (codeN m 16 255) 16 : Int) := ⟨_, rfl⟩
  obtain ⟨Y, hY⟩ : ∃ Y : Int, Y = (valN (codeN (te / 10) 16 255) 16 : Int) := ⟨_, rfl⟩
  obtain ⟨K, hK⟩ : ∃ K, K = queryT ⟨tr, te, m, tl, tc⟩ false n := ⟨_, rfl⟩
  rw [← hK]
  have HE : Hid (K = ⟨false, 3, 1, P, (false, z16), false, tr, Y, [], []⟩) := Lib.hid (by rw [hK, hP, hY]; unfold queryT; rw [hv]; simp [queryV, newV])
  have HL : Hid (∀ W, Calls Try.prog 29 #[.bool false] W fun x w' => x = .returned (.int .i64 3) ∧ W = w') := Lib.hid fun W => tlatest_any false W
  have HW : Hid (∀ W, Calls Try.prog 30 #[.int .i64 n, .int .i64 1, .int .i64 3] W fun x w' => x = .returned (.int .i64 3) ∧ W = w') := Lib.hid fun W => by
    have := tclamp_any n 1 3 (by omega) W
    rwa [show clampI n 1 3 = 3 from (show clampI n 1 3 = verQ false n from rfl).trans hv] at this
  have HC : Hid (∀ W, Calls Try.prog 34 #[.int .i64 m] W fun x w' => x = .returned (.int .i64 (codeN m 16 255 : Nat)) ∧ Below W.heap.size W w') := Lib.hid fun W => code8_any _ W
  have HV : Hid (∀ W, Calls Try.prog 33 #[.int .i64 (codeN m 16 255 : Nat)] W fun x w' => x = .returned (.int .i64 P) ∧ Below W.heap.size W w') := Lib.hid fun W => by
    have := value8_any (codeN m 16 255 : Nat) W
    rwa [clamp_in _ _ (codeN_le _ _ _), ← hP] at this
  generalize codeN m 16 255 = C at HC HV
  have HCE : Hid (∀ W, Calls Try.prog 34 #[.int .i64 (te / 10)] W fun x w' => x = .returned (.int .i64 (codeN (te / 10) 16 255 : Nat)) ∧ Below W.heap.size W w') := Lib.hid fun W => code8_any _ W
  have HVE : Hid (∀ W, Calls Try.prog 33 #[.int .i64 (codeN (te / 10) 16 255 : Nat)] W fun x w' => x = .returned (.int .i64 Y) ∧ Below W.heap.size W w') := Lib.hid fun W => by
    have := value8_any (codeN (te / 10) 16 255 : Nat) W
    rwa [clamp_in _ _ (codeN_le _ _ _), ← hY] at this
  generalize codeN (te / 10) 16 255 = CE at HCE HVE
  have HI : Hid (∀ W, Calls Try.prog 27 #[.int .i64 tr, .int .i64 0, .int .i64 7] W fun x w' => x = .returned (.bool true) ∧ W = w') := Lib.hid fun W => by
    have := twithin_any tr 0 7 W
    rwa [decide_eq_true (by omega)] at this
  have w3 : IntKind.i64.wrap (te / 10) = te / 10 := by simp only [IntKind.wrap_i64]; omega
  have w4 : te.tdiv 10 = te / 10 := Int.tdiv_eq_ediv_of_nonneg (by omega)
  generalize te / 10 = te10 at *
  have q0 : ∀ w0, (Op.equalIn 10000 50 (.agg #[.bool false, .int .i64 3]) (.agg #[.bool false, .int .i64 1])).run Try.prog w0 = .ok false w0 := fun w0 => by rw [eq_shp14]; rfl
  have q1 : ∀ w0, (Op.equalIn 10000 50 (.agg #[.bool false, .int .i64 3]) (.agg #[.bool false, .int .i64 2])).run Try.prog w0 = .ok false w0 := fun w0 => by rw [eq_shp14]; rfl
  have q2 : ∀ w0, (Op.equalIn 10000 50 (.agg #[.bool false, .int .i64 3]) (.agg #[.bool false, .int .i64 3])).run Try.prog w0 = .ok true w0 := fun w0 => by rw [eq_shp14]; rfl
  have q3 : ∀ w0, (Op.equalIn 10000 50 (.agg #[.bool false, .int .i64 3]) (.agg #[.bool true, .int .i64 1])).run Try.prog w0 = .ok false w0 := fun w0 => by rw [eq_shp14]; rfl
  have q4 : ∀ w0, (Op.equalIn 10000 50 (.agg #[.bool false, .int .i64 3]) (.agg #[.bool true, .int .i64 2])).run Try.prog w0 = .ok false w0 := fun w0 => by rw [eq_shp14]; rfl
  have hbA := fun w0 => bld_vq false w0
  have hbT := fun w0 => bld_tkq false 3 w0
  have hfk : fok (tkC ⟨false, 3, 1, 0, (false, z16), false, 0, 0, [], []⟩ (.slice none 0 0) (.slice none 0 0)).toArray 26 = true := fok_tk (z16_ok _) rfl rfl
  have hfe : fok (tkC ⟨false, 3, 1, P, (false, z16), false, tr, Y, [], []⟩ (.slice none 0 0) (.slice none 0 0)).toArray 26 = true := fok_tk (z16_ok _) rfl rfl
  have hfm := fun W => fmade W #[.bool false, .int .i64 0, .int .i64 0, .int .i64 0, .bool false, .int .u8 0, .int .u8 0, .int .u8 0, .int .u8 0, .int .u8 0, .int .u8 0, .int .u8 0, .int .u8 0, .int .u8 0, .int .u8 0, .int .u8 0, .int .u8 0, .int .u8 0, .int .u8 0, .int .u8 0, .int .u8 0, .bool false, .int .i64 0, .int .i64 0, .slice none 0 0, .slice none 0 0] 35 26 rfl
  clear hP
  clear hY hK hg hb hv
  go_enter Try.func21, Try.ntmps21
  go_upto_region 1 with (fail)
  generalize (w.alloc _).alloc _ = W at H0 ⊢
  go_upto_region 2 with (first
    | (go_at_call 29; (with_reducible refine (HL.out _).mono ?_); rintro x w1 ⟨rfl, rfl⟩)
    | (go_at_call 30; (with_reducible refine (HW.out _).mono ?_); rintro x w1 ⟨rfl, rfl⟩))
  have H1 := Lib.hid (Qr.start H0.out ⟨false, 3, 1, 0, (false, z16), false, 0, 0, [], []⟩ (z16_ok _))
  generalize aggW (W.alloc _) W.heap.size _ = W1 at H1 ⊢
  generalize W.heap.size = mm at H1 ⊢
  clear H0 hbA hbT hfm HW
  obtain ⟨c0, c1, c2, d3, d6, d7, f3, f6, f7, rt, fr⟩ := H1.out.facts
  have c9 := fun W (h : Qr w W mm ⟨tr, te, m, tl, tc⟩ ⟨false, 3, 1, 0, (false, z16), false, 0, 0, [], []⟩) => h.tk.ver
  simp only at c0 c1 c2 d3 d6 d7 c9
  have c10 := c9 _ H1.out
  go_upto_region 12 with (first
    | (go_at_call 34; (with_reducible refine (HC.out _).mono ?_); rintro x w1 ⟨rfl, hb⟩; replace H1 := Lib.hid (Qr.belowS _ _ H1.out hb); clear hb c0 c1 c2 d3 d6 d7 f3 f6 f7 rt fr; obtain ⟨c0, c1, c2, d3, d6, d7, f3, f6, f7, rt, fr⟩ := H1.out.facts; simp only at c0 c1 c2 d3 d6 d7)
    | (go_at_call 33; (with_reducible refine (HV.out _).mono ?_); rintro x w1 ⟨rfl, hb⟩; replace H1 := Lib.hid (Qr.belowS _ _ H1.out hb); clear hb c0 c1 c2 d3 d6 d7 f3 f6 f7 rt fr; obtain ⟨c0, c1, c2, d3, d6, d7, f3, f6, f7, rt, fr⟩ := H1.out.facts; simp only at c0 c1 c2 d3 d6 d7))
  have H3 := Lib.hid (H1.out.set 3 (.int .i64 P) (e' := ⟨false, 3, 1, P, (false, z16), false, 0, 0, [], []⟩) rfl (z16_ok _))
  generalize World.setCell _ _ _ = W3 at H3 ⊢
  clear H1 c0 c1 c2 d3 d6 d7 f3 f6 f7 rt fr c9 c10
  have f1 : ∀ p : InS (fun W => Qr w W mm ⟨tr, te, m, tl, tc⟩ ⟨false, 3, 1, P, (false, z16), false, 0, 0, [], []⟩), p.W.cell? ⟨mm, 1, none⟩ = some (.int .i64 3) := fun p => p.h.tk.ver
  have hne : Nonempty (InS (fun W => Qr w W mm ⟨tr, te, m, tl, tc⟩ ⟨false, 3, 1, P, (false, z16), false, 0, 0, [], []⟩)) := ⟨⟨_, H3.out⟩⟩
  refine wp_region_inS (fun W => Qr w W mm ⟨tr, te, m, tl, tc⟩ ⟨false, 3, 1, P, (false, z16), false, 0, 0, [], []⟩) (by kernel_rfl) (by kernel_rfl) (Qr.belowS _ _ H3.out (bdrewN (Below.refl _ _) 1)) ?_
  repeat (go_big_quiet_step (first
    | (go_at_call 29; with_reducible exact Calls.inS Qr.belowS _ (fun W _ => (HL.out W).mono fun _ _ h => ⟨h.1, h.2 ▸ Below.refl _ _⟩))))
  refine wpQuiet_nil ?_
  rintro _ ⟨⟨W2, hS2⟩, rfl⟩
  have H2 := Lib.hid hS2
  clear hS2 hne f1
  clear H3
  obtain ⟨c0, c1, c2, d3, d6, d7, f3, f6, f7, rt, fr⟩ := H2.out.facts
  simp only at c0 c1 c2 d3 d6 d7
  go_upto_region 14 with (first
    | (go_at_call 34; (with_reducible refine (HCE.out _).mono ?_); rintro x w1 ⟨rfl, hb⟩; replace H2 := Lib.hid (Qr.belowS _ _ H2.out hb); clear hb c0 c1 c2 d3 d6 d7 f3 f6 f7 rt fr; obtain ⟨c0, c1, c2, d3, d6, d7, f3, f6, f7, rt, fr⟩ := H2.out.facts; simp only at c0 c1 c2 d3 d6 d7)
    | (go_at_call 33; (with_reducible refine (HVE.out _).mono ?_); rintro x w1 ⟨rfl, hb⟩; replace H2 := Lib.hid (Qr.belowS _ _ H2.out hb); clear hb c0 c1 c2 d3 d6 d7 f3 f6 f7 rt fr; obtain ⟨c0, c1, c2, d3, d6, d7, f3, f6, f7, rt, fr⟩ := H2.out.facts; simp only at c0 c1 c2 d3 d6 d7))
  have H4 := Lib.hid (H2.out.set 23 (.int .i64 Y) (e' := ⟨false, 3, 1, P, (false, z16), false, 0, Y, [], []⟩) rfl (z16_ok _))
  generalize World.setCell _ _ _ = W4 at H4 ⊢
  clear H2 c0 c1 c2 d3 d6 d7 f3 f6 f7 rt fr
  have H2 := H4
  clear H4
  obtain ⟨c0, c1, c2, d3, d6, d7, f3, f6, f7, rt, fr⟩ := H2.out.facts
  simp only at c0 c1 c2 d3 d6 d7
  go_upto_region 16 with (first
    | (go_at_call 27; (with_reducible refine (HI.out _).mono ?_); rintro x w1 ⟨rfl, rfl⟩))
  have H4 := Lib.hid (H2.out.set 22 (.int .i64 tr) (e' := ⟨false, 3, 1, P, (false, z16), false, tr, Y, [], []⟩) rfl (z16_ok _))
  generalize World.setCell _ _ _ = W4 at H4 ⊢
  clear H2 c0 c1 c2 d3 d6 d7 f3 f6 f7 rt fr
  have H2 := H4
  clear H4
  obtain ⟨c0, c1, c2, d3, d6, d7, f3, f6, f7, rt, fr⟩ := H2.out.facts
  simp only at c0 c1 c2 d3 d6 d7
  go_wp2
  obtain ⟨y1, y2⟩ := resDone H2.out.res H2.out.blw (by omega) (tkC ⟨false, 3, 1, P, (false, z16), false, tr, Y, [], []⟩ (.slice none 0 0) (.slice none 0 0)) (by rw [tkC_length (z16_ok _)]; rfl)
  exact bodyPost_ret (results_cell Try.results21 rfl (ld_some y1 (ldr_tk _ _ _))) rfl ⟨by rw [HE.out], y2⟩
set_option maxRecDepth 100000 in
set_option maxHeartbeats 4000000 in
theorem tqry14_true1 (t : TN) (n : Int) (hg : gdN t = true) (hv : verQ true n = 1) (w : World) : Calls Try.prog 21 #[.agg (tnC t).toArray, .bool true, .int .i64 n] w fun x w' => x = .returned (.agg (tkC (queryT t true n) (.slice none 0 0) (.slice none 0 0)).toArray) ∧ Below w.heap.size w w' := by
  obtain ⟨tr, te, m, tl, tc⟩ := t
  have hb := gdN_iff.1 hg
  simp only at hb
  have hb2 : 1 ≤ m ∧ m ≤ 31744 ∧ 0 ≤ te ∧ 1 ≤ tr ∧ tr ≤ 7 := by omega
  have H0 := Lib.hid (Bx.made w (tnC ⟨tr, te, m, tl, tc⟩).toArray 23 #[.bool false, .int .i64 0, .int .i64 0, .int .i64 0, .bool false, .int .u8 0, .int .u8 0, .int .u8 0, .int .u8 0, .int .u8 0, .int .u8 0, .int .u8 0, .int .u8 0, .int .u8 0, .int .u8 0, .int .u8 0, .int .u8 0, .int .u8 0, .int .u8 0, .int .u8 0, .int .u8 0, .bool false, .int .i64 0, .int .i64 0, .slice none 0 0, .slice none 0 0] 35)
  obtain ⟨P, hP⟩ : ∃ P : Int, P = min (100 * m) 65535 := ⟨_, rfl⟩
  obtain ⟨Y, hY⟩ : ∃ Y : Int, Y = (valN (codeN (te / 10) 16 255) 16 : Int) := ⟨_, rfl⟩
  obtain ⟨K, hK⟩ : ∃ K, K = queryT ⟨tr, te, m, tl, tc⟩ true n := ⟨_, rfl⟩
  rw [← hK]
  have HE : Hid (K = ⟨true, 1, 1, P, (true, z16), false, 0, 0, [], []⟩) := Lib.hid (by rw [hK, hP]; unfold queryT; rw [hv]; simp [queryV, newV])
  have HL : Hid (∀ W, Calls Try.prog 29 #[.bool true] W fun x w' => x = .returned (.int .i64 2) ∧ W = w') := Lib.hid fun W => tlatest_any true W
  have HW : Hid (∀ W, Calls Try.prog 30 #[.int .i64 n, .int .i64 1, .int .i64 2] W fun x w' => x = .returned (.int .i64 1) ∧ W = w') := Lib.hid fun W => by
    have := tclamp_any n 1 2 (by omega) W
    rwa [show clampI n 1 2 = 1 from (show clampI n 1 2 = verQ true n from rfl).trans hv] at this
  have HT : Hid (∀ W, Calls Try.prog 31 #[.int .i64 m, .int .i64 100] W fun x w' => x = .returned (.int .i64 (100 * m)) ∧ W = w') := Lib.hid fun W => by
    have := ttimes_k m 100 (by omega) W
    rwa [show clampI m 0 100000 * 100 = 100 * m by unfold clampI; rw [if_neg (by omega), if_neg (by omega)]; omega] at this
  have q0 : ∀ w0, (Op.equalIn 10000 50 (.agg #[.bool true, .int .i64 1]) (.agg #[.bool false, .int .i64 1])).run Try.prog w0 = .ok false w0 := fun w0 => by rw [eq_shp14]; rfl
  have q1 : ∀ w0, (Op.equalIn 10000 50 (.agg #[.bool true, .int .i64 1]) (.agg #[.bool false, .int .i64 2])).run Try.prog w0 = .ok false w0 := fun w0 => by rw [eq_shp14]; rfl
  have q2 : ∀ w0, (Op.equalIn 10000 50 (.agg #[.bool true, .int .i64 1]) (.agg #[.bool false, .int .i64 3])).run Try.prog w0 = .ok false w0 := fun w0 => by rw [eq_shp14]; rfl
  have q3 : ∀ w0, (Op.equalIn 10000 50 (.agg #[.bool true, .int .i64 1]) (.agg #[.bool true, .int .i64 1])).run Try.prog w0 = .ok true w0 := fun w0 => by rw [eq_shp14]; rfl
  have q4 : ∀ w0, (Op.equalIn 10000 50 (.agg #[.bool true, .int .i64 1]) (.agg #[.bool true, .int .i64 2])).run Try.prog w0 = .ok false w0 := fun w0 => by rw [eq_shp14]; rfl
  have hbA := fun w0 => bld_vq true w0
  have hbT := fun w0 => bld_tkq true 1 w0
  have hfk : fok (tkC ⟨true, 1, 1, 0, (true, z16), false, 0, 0, [], []⟩ (.slice none 0 0) (.slice none 0 0)).toArray 26 = true := fok_tk (z16_ok _) rfl rfl
  have hfe : fok (tkC ⟨true, 1, 1, P, (true, z16), false, 0, 0, [], []⟩ (.slice none 0 0) (.slice none 0 0)).toArray 26 = true := fok_tk (z16_ok _) rfl rfl
  have hfm := fun W => fmade W #[.bool false, .int .i64 0, .int .i64 0, .int .i64 0, .bool false, .int .u8 0, .int .u8 0, .int .u8 0, .int .u8 0, .int .u8 0, .int .u8 0, .int .u8 0, .int .u8 0, .int .u8 0, .int .u8 0, .int .u8 0, .int .u8 0, .int .u8 0, .int .u8 0, .int .u8 0, .int .u8 0, .bool false, .int .i64 0, .int .i64 0, .slice none 0 0, .slice none 0 0] 35 26 rfl
  by_cases hmin : 65535 < 100 * m
  · obtain rfl : P = 65535 := by rw [hP]; omega
    clear hP
    clear hY hK hg hb hv
    go_enter Try.func21, Try.ntmps21
    go_upto_region 1 with (fail)
    generalize (w.alloc _).alloc _ = W at H0 ⊢
    go_upto_region 2 with (first
      | (go_at_call 29; (with_reducible refine (HL.out _).mono ?_); rintro x w1 ⟨rfl, rfl⟩)
      | (go_at_call 30; (with_reducible refine (HW.out _).mono ?_); rintro x w1 ⟨rfl, rfl⟩))
    have H1 := Lib.hid (Qr.start H0.out ⟨true, 1, 1, 0, (true, z16), false, 0, 0, [], []⟩ (z16_ok _))
    generalize aggW (W.alloc _) W.heap.size _ = W1 at H1 ⊢
    generalize W.heap.size = mm at H1 ⊢
    clear H0 hbA hbT hfm HW
    obtain ⟨c0, c1, c2, d3, d6, d7, f3, f6, f7, rt, fr⟩ := H1.out.facts
    have c9 := fun W (h : Qr w W mm ⟨tr, te, m, tl, tc⟩ ⟨true, 1, 1, 0, (true, z16), false, 0, 0, [], []⟩) => h.tk.ver
    simp only at c0 c1 c2 d3 d6 d7 c9
    have c10 := c9 _ H1.out
    go_upto_region 12 with (first
      | (go_at_call 31; (with_reducible refine (HT.out _).mono ?_); rintro x w1 ⟨rfl, rfl⟩))
    have H3 := Lib.hid (H1.out.set 3 (.int .i64 65535) (e' := ⟨true, 1, 1, 65535, (true, z16), false, 0, 0, [], []⟩) rfl (z16_ok _))
    generalize World.setCell _ _ _ = W3 at H3 ⊢
    clear H1 c0 c1 c2 d3 d6 d7 f3 f6 f7 rt fr c9 c10
    have f1 : ∀ p : InS (fun W => Qr w W mm ⟨tr, te, m, tl, tc⟩ ⟨true, 1, 1, 65535, (true, z16), false, 0, 0, [], []⟩), p.W.cell? ⟨mm, 1, none⟩ = some (.int .i64 1) := fun p => p.h.tk.ver
    have hne : Nonempty (InS (fun W => Qr w W mm ⟨tr, te, m, tl, tc⟩ ⟨true, 1, 1, 65535, (true, z16), false, 0, 0, [], []⟩)) := ⟨⟨_, H3.out⟩⟩
    refine wp_region_inS (fun W => Qr w W mm ⟨tr, te, m, tl, tc⟩ ⟨true, 1, 1, 65535, (true, z16), false, 0, 0, [], []⟩) (by kernel_rfl) (by kernel_rfl) (Qr.belowS _ _ H3.out (bdrewN (Below.refl _ _) 1)) ?_
    repeat (go_big_quiet_step (first
      | (go_at_call 29; with_reducible exact Calls.inS Qr.belowS _ (fun W _ => (HL.out W).mono fun _ _ h => ⟨h.1, h.2 ▸ Below.refl _ _⟩))))
    refine wpQuiet_nil ?_
    rintro _ ⟨⟨W2, hS2⟩, rfl⟩
    have H2 := Lib.hid hS2
    clear hS2 hne f1
    clear H3
    obtain ⟨c0, c1, c2, d3, d6, d7, f3, f6, f7, rt, fr⟩ := H2.out.facts
    simp only at c0 c1 c2 d3 d6 d7
    go_wp2
    obtain ⟨y1, y2⟩ := resDone H2.out.res H2.out.blw (by omega) (tkC ⟨true, 1, 1, 65535, (true, z16), false, 0, 0, [], []⟩ (.slice none 0 0) (.slice none 0 0)) (by rw [tkC_length (z16_ok _)]; rfl)
    exact bodyPost_ret (results_cell Try.results21 rfl (ld_some y1 (ldr_tk _ _ _))) rfl ⟨by rw [HE.out], y2⟩
  · obtain rfl : P = 100 * m := by rw [hP]; omega
    clear hP
    clear hY hK hg hb hv
    go_enter Try.func21, Try.ntmps21
    go_upto_region 1 with (fail)
    generalize (w.alloc _).alloc _ = W at H0 ⊢
    go_upto_region 2 with (first
      | (go_at_call 29; (with_reducible refine (HL.out _).mono ?_); rintro x w1 ⟨rfl, rfl⟩)
      | (go_at_call 30; (with_reducible refine (HW.out _).mono ?_); rintro x w1 ⟨rfl, rfl⟩))
    have H1 := Lib.hid (Qr.start H0.out ⟨true, 1, 1, 0, (true, z16), false, 0, 0, [], []⟩ (z16_ok _))
    generalize aggW (W.alloc _) W.heap.size _ = W1 at H1 ⊢
    generalize W.heap.size = mm at H1 ⊢
    clear H0 hbA hbT hfm HW
    obtain ⟨c0, c1, c2, d3, d6, d7, f3, f6, f7, rt, fr⟩ := H1.out.facts
    have c9 := fun W (h : Qr w W mm ⟨tr, te, m, tl, tc⟩ ⟨true, 1, 1, 0, (true, z16), false, 0, 0, [], []⟩) => h.tk.ver
    simp only at c0 c1 c2 d3 d6 d7 c9
    have c10 := c9 _ H1.out
    go_upto_region 12 with (first
      | (go_at_call 31; (with_reducible refine (HT.out _).mono ?_); rintro x w1 ⟨rfl, rfl⟩))
    have H3 := Lib.hid (H1.out.set 3 (.int .i64 (100 * m)) (e' := ⟨true, 1, 1, 100 * m, (true, z16), false, 0, 0, [], []⟩) rfl (z16_ok _))
    generalize World.setCell _ _ _ = W3 at H3 ⊢
    clear H1 c0 c1 c2 d3 d6 d7 f3 f6 f7 rt fr c9 c10
    have f1 : ∀ p : InS (fun W => Qr w W mm ⟨tr, te, m, tl, tc⟩ ⟨true, 1, 1, 100 * m, (true, z16), false, 0, 0, [], []⟩), p.W.cell? ⟨mm, 1, none⟩ = some (.int .i64 1) := fun p => p.h.tk.ver
    have hne : Nonempty (InS (fun W => Qr w W mm ⟨tr, te, m, tl, tc⟩ ⟨true, 1, 1, 100 * m, (true, z16), false, 0, 0, [], []⟩)) := ⟨⟨_, H3.out⟩⟩
    refine wp_region_inS (fun W => Qr w W mm ⟨tr, te, m, tl, tc⟩ ⟨true, 1, 1, 100 * m, (true, z16), false, 0, 0, [], []⟩) (by kernel_rfl) (by kernel_rfl) (Qr.belowS _ _ H3.out (bdrewN (Below.refl _ _) 1)) ?_
    repeat (go_big_quiet_step (first
      | (go_at_call 29; with_reducible exact Calls.inS Qr.belowS _ (fun W _ => (HL.out W).mono fun _ _ h => ⟨h.1, h.2 ▸ Below.refl _ _⟩))))
    refine wpQuiet_nil ?_
    rintro _ ⟨⟨W2, hS2⟩, rfl⟩
    have H2 := Lib.hid hS2
    clear hS2 hne f1
    clear H3
    obtain ⟨c0, c1, c2, d3, d6, d7, f3, f6, f7, rt, fr⟩ := H2.out.facts
    simp only at c0 c1 c2 d3 d6 d7
    go_wp2
    obtain ⟨y1, y2⟩ := resDone H2.out.res H2.out.blw (by omega) (tkC ⟨true, 1, 1, 100 * m, (true, z16), false, 0, 0, [], []⟩ (.slice none 0 0) (.slice none 0 0)) (by rw [tkC_length (z16_ok _)]; rfl)
    exact bodyPost_ret (results_cell Try.results21 rfl (ld_some y1 (ldr_tk _ _ _))) rfl ⟨by rw [HE.out], y2⟩
set_option maxRecDepth 100000 in
set_option maxHeartbeats 4000000 in
theorem tqry14_true2 (t : TN) (n : Int) (hg : gdN t = true) (hv : verQ true n = 2) (w : World) : Calls Try.prog 21 #[.agg (tnC t).toArray, .bool true, .int .i64 n] w fun x w' => x = .returned (.agg (tkC (queryT t true n) (.slice none 0 0) (.slice none 0 0)).toArray) ∧ Below w.heap.size w w' := by
  obtain ⟨tr, te, m, tl, tc⟩ := t
  have hb := gdN_iff.1 hg
  simp only at hb
  have hb2 : 1 ≤ m ∧ m ≤ 31744 ∧ 0 ≤ te ∧ 1 ≤ tr ∧ tr ≤ 7 := by omega
  have H0 := Lib.hid (Bx.made w (tnC ⟨tr, te, m, tl, tc⟩).toArray 23 #[.bool false, .int .i64 0, .int .i64 0, .int .i64 0, .bool false, .int .u8 0, .int .u8 0, .int .u8 0, .int .u8 0, .int .u8 0, .int .u8 0, .int .u8 0, .int .u8 0, .int .u8 0, .int .u8 0, .int .u8 0, .int .u8 0, .int .u8 0, .int .u8 0, .int .u8 0, .int .u8 0, .bool false, .int .i64 0, .int .i64 0, .slice none 0 0, .slice none 0 0] 35)
  obtain ⟨P, hP⟩ : ∃ P : Int, P = (valN (codeN (100 * m) 4096 65535) 4096 : Int) := ⟨_, rfl⟩
  obtain ⟨Y, hY⟩ : ∃ Y : Int, Y = (valN (codeN (te / 10) 16 255) 16 : Int) := ⟨_, rfl⟩
  obtain ⟨K, hK⟩ : ∃ K, K = queryT ⟨tr, te, m, tl, tc⟩ true n := ⟨_, rfl⟩
  rw [← hK]
  have HE : Hid (K = ⟨true, 2, 1, P, (true, z16), false, tr, Y, [], []⟩) := Lib.hid (by rw [hK, hP, hY]; unfold queryT; rw [hv]; simp [queryV, newV])
  have HL : Hid (∀ W, Calls Try.prog 29 #[.bool true] W fun x w' => x = .returned (.int .i64 2) ∧ W = w') := Lib.hid fun W => tlatest_any true W
  have HW : Hid (∀ W, Calls Try.prog 30 #[.int .i64 n, .int .i64 1, .int .i64 2] W fun x w' => x = .returned (.int .i64 2) ∧ W = w') := Lib.hid fun W => by
    have := tclamp_any n 1 2 (by omega) W
    rwa [show clampI n 1 2 = 2 from (show clampI n 1 2 = verQ true n from rfl).trans hv] at this
  have HT : Hid (∀ W, Calls Try.prog 31 #[.int .i64 m, .int .i64 100] W fun x w' => x = .returned (.int .i64 (100 * m)) ∧ W = w') := Lib.hid fun W => by
    have := ttimes_k m 100 (by omega) W
    rwa [show clampI m 0 100000 * 100 = 100 * m by unfold clampI; rw [if_neg (by omega), if_neg (by omega)]; omega] at this
  have HC : Hid (∀ W, Calls Try.prog 36 #[.int .i64 (100 * m)] W fun x w' => x = .returned (.int .i64 (codeN (100 * m) 4096 65535 : Nat)) ∧ Below W.heap.size W w') := Lib.hid fun W => code16_any _ W
  have HV : Hid (∀ W, Calls Try.prog 35 #[.int .i64 (codeN (100 * m) 4096 65535 : Nat)] W fun x w' => x = .returned (.int .i64 P) ∧ Below W.heap.size W w') := Lib.hid fun W => by
    have := value16_any (codeN (100 * m) 4096 65535 : Nat) W
    rwa [clamp_in _ _ (codeN_le _ _ _), ← hP] at this
  generalize codeN (100 * m) 4096 65535 = C at HC HV
  have HCE : Hid (∀ W, Calls Try.prog 34 #[.int .i64 (te / 10)] W fun x w' => x = .returned (.int .i64 (codeN (te / 10) 16 255 : Nat)) ∧ Below W.heap.size W w') := Lib.hid fun W => code8_any _ W
  have HVE : Hid (∀ W, Calls Try.prog 33 #[.int .i64 (codeN (te / 10) 16 255 : Nat)] W fun x w' => x = .returned (.int .i64 Y) ∧ Below W.heap.size W w') := Lib.hid fun W => by
    have := value8_any (codeN (te / 10) 16 255 : Nat) W
    rwa [clamp_in _ _ (codeN_le _ _ _), ← hY] at this
  generalize codeN (te / 10) 16 255 = CE at HCE HVE
  have HI : Hid (∀ W, Calls Try.prog 27 #[.int .i64 tr, .int .i64 0, .int .i64 7] W fun x w' => x = .returned (.bool true) ∧ W = w') := Lib.hid fun W => by
    have := twithin_any tr 0 7 W
    rwa [decide_eq_true (by omega)] at this
  have w3 : IntKind.i64.wrap (te / 10) = te / 10 := by simp only [IntKind.wrap_i64]; omega
  have w4 : te.tdiv 10 = te / 10 := Int.tdiv_eq_ediv_of_nonneg (by omega)
  generalize te / 10 = te10 at *
  have q0 : ∀ w0, (Op.equalIn 10000 50 (.agg #[.bool true, .int .i64 2]) (.agg #[.bool false, .int .i64 1])).run Try.prog w0 = .ok false w0 := fun w0 => by rw [eq_shp14]; rfl
  have q1 : ∀ w0, (Op.equalIn 10000 50 (.agg #[.bool true, .int .i64 2]) (.agg #[.bool false, .int .i64 2])).run Try.prog w0 = .ok false w0 := fun w0 => by rw [eq_shp14]; rfl
  have q2 : ∀ w0, (Op.equalIn 10000 50 (.agg #[.bool true, .int .i64 2]) (.agg #[.bool false, .int .i64 3])).run Try.prog w0 = .ok false w0 := fun w0 => by rw [eq_shp14]; rfl
  have q3 : ∀ w0, (Op.equalIn 10000 50 (.agg #[.bool true, .int .i64 2]) (.agg #[.bool true, .int .i64 1])).run Try.prog w0 = .ok false w0 := fun w0 => by rw [eq_shp14]; rfl
  have q4 : ∀ w0, (Op.equalIn 10000 50 (.agg #[.bool true, .int .i64 2]) (.agg #[.bool true, .int .i64 2])).run Try.prog w0 = .ok true w0 := fun w0 => by rw [eq_shp14]; rfl
  have hbA := fun w0 => bld_vq true w0
  have hbT := fun w0 => bld_tkq true 2 w0
  have hfk : fok (tkC ⟨true, 2, 1, 0, (true, z16), false, 0, 0, [], []⟩ (.slice none 0 0) (.slice none 0 0)).toArray 26 = true := fok_tk (z16_ok _) rfl rfl
  have hfe : fok (tkC ⟨true, 2, 1, P, (true, z16), false, tr, Y, [], []⟩ (.slice none 0 0) (.slice none 0 0)).toArray 26 = true := fok_tk (z16_ok _) rfl rfl
  have hfm := fun W => fmade W #[.bool false, .int .i64 0, .int .i64 0, .int .i64 0, .bool false, .int .u8 0, .int .u8 0, .int .u8 0, .int .u8 0, .int .u8 0, .int .u8 0, .int .u8 0, .int .u8 0, .int .u8 0, .int .u8 0, .int .u8 0, .int .u8 0, .int .u8 0, .int .u8 0, .int .u8 0, .int .u8 0, .bool false, .int .i64 0, .int .i64 0, .slice none 0 0, .slice none 0 0] 35 26 rfl
  clear hP
  clear hY hK hg hb hv
  go_enter Try.func21, Try.ntmps21
  go_upto_region 1 with (fail)
  generalize (w.alloc _).alloc _ = W at H0 ⊢
  go_upto_region 2 with (first
    | (go_at_call 29; (with_reducible refine (HL.out _).mono ?_); rintro x w1 ⟨rfl, rfl⟩)
    | (go_at_call 30; (with_reducible refine (HW.out _).mono ?_); rintro x w1 ⟨rfl, rfl⟩))
  have H1 := Lib.hid (Qr.start H0.out ⟨true, 2, 1, 0, (true, z16), false, 0, 0, [], []⟩ (z16_ok _))
  generalize aggW (W.alloc _) W.heap.size _ = W1 at H1 ⊢
  generalize W.heap.size = mm at H1 ⊢
  clear H0 hbA hbT hfm HW
  obtain ⟨c0, c1, c2, d3, d6, d7, f3, f6, f7, rt, fr⟩ := H1.out.facts
  have c9 := fun W (h : Qr w W mm ⟨tr, te, m, tl, tc⟩ ⟨true, 2, 1, 0, (true, z16), false, 0, 0, [], []⟩) => h.tk.ver
  simp only at c0 c1 c2 d3 d6 d7 c9
  have c10 := c9 _ H1.out
  go_upto_region 12 with (first
    | (go_at_call 31; (with_reducible refine (HT.out _).mono ?_); rintro x w1 ⟨rfl, rfl⟩)
    | (go_at_call 36; (with_reducible refine (HC.out _).mono ?_); rintro x w1 ⟨rfl, hb⟩; replace H1 := Lib.hid (Qr.belowS _ _ H1.out hb); clear hb c0 c1 c2 d3 d6 d7 f3 f6 f7 rt fr; obtain ⟨c0, c1, c2, d3, d6, d7, f3, f6, f7, rt, fr⟩ := H1.out.facts; simp only at c0 c1 c2 d3 d6 d7)
    | (go_at_call 35; (with_reducible refine (HV.out _).mono ?_); rintro x w1 ⟨rfl, hb⟩; replace H1 := Lib.hid (Qr.belowS _ _ H1.out hb); clear hb c0 c1 c2 d3 d6 d7 f3 f6 f7 rt fr; obtain ⟨c0, c1, c2, d3, d6, d7, f3, f6, f7, rt, fr⟩ := H1.out.facts; simp only at c0 c1 c2 d3 d6 d7))
  have H3 := Lib.hid (H1.out.set 3 (.int .i64 P) (e' := ⟨true, 2, 1, P, (true, z16), false, 0, 0, [], []⟩) rfl (z16_ok _))
  generalize World.setCell _ _ _ = W3 at H3 ⊢
  clear H1 c0 c1 c2 d3 d6 d7 f3 f6 f7 rt fr c9 c10
  have f1 : ∀ p : InS (fun W => Qr w W mm ⟨tr, te, m, tl, tc⟩ ⟨true, 2, 1, P, (true, z16), false, 0, 0, [], []⟩), p.W.cell? ⟨mm, 1, none⟩ = some (.int .i64 2) := fun p => p.h.tk.ver
  have hne : Nonempty (InS (fun W => Qr w W mm ⟨tr, te, m, tl, tc⟩ ⟨true, 2, 1, P, (true, z16), false, 0, 0, [], []⟩)) := ⟨⟨_, H3.out⟩⟩
  refine wp_region_inS (fun W => Qr w W mm ⟨tr, te, m, tl, tc⟩ ⟨true, 2, 1, P, (true, z16), false, 0, 0, [], []⟩) (by kernel_rfl) (by kernel_rfl) (Qr.belowS _ _ H3.out (bdrewN (Below.refl _ _) 1)) ?_
  repeat (go_big_quiet_step (first
    | (go_at_call 29; with_reducible exact Calls.inS Qr.belowS _ (fun W _ => (HL.out W).mono fun _ _ h => ⟨h.1, h.2 ▸ Below.refl _ _⟩))))
  refine wpQuiet_nil ?_
  rintro _ ⟨⟨W2, hS2⟩, rfl⟩
  have H2 := Lib.hid hS2
  clear hS2 hne f1
  clear H3
  obtain ⟨c0, c1, c2, d3, d6, d7, f3, f6, f7, rt, fr⟩ := H2.out.facts
  simp only at c0 c1 c2 d3 d6 d7
  go_upto_region 14 with (first
    | (go_at_call 34; (with_reducible refine (HCE.out _).mono ?_); rintro x w1 ⟨rfl, hb⟩; replace H2 := Lib.hid (Qr.belowS _ _ H2.out hb); clear hb c0 c1 c2 d3 d6 d7 f3 f6 f7 rt fr; obtain ⟨c0, c1, c2, d3, d6, d7, f3, f6, f7, rt, fr⟩ := H2.out.facts; simp only at c0 c1 c2 d3 d6 d7)
    | (go_at_call 33; (with_reducible refine (HVE.out _).mono ?_); rintro x w1 ⟨rfl, hb⟩; replace H2 := Lib.hid (Qr.belowS _ _ H2.out hb); clear hb c0 c1 c2 d3 d6 d7 f3 f6 f7 rt fr; obtain ⟨c0, c1, c2, d3, d6, d7, f3, f6, f7, rt, fr⟩ := H2.out.facts; simp only at c0 c1 c2 d3 d6 d7))
  have H4 := Lib.hid (H2.out.set 23 (.int .i64 Y) (e' := ⟨true, 2, 1, P, (true, z16), false, 0, Y, [], []⟩) rfl (z16_ok _))
  generalize World.setCell _ _ _ = W4 at H4 ⊢
  clear H2 c0 c1 c2 d3 d6 d7 f3 f6 f7 rt fr
  have H2 := H4
  clear H4
  obtain ⟨c0, c1, c2, d3, d6, d7, f3, f6, f7, rt, fr⟩ := H2.out.facts
  simp only at c0 c1 c2 d3 d6 d7
  go_upto_region 16 with (first
    | (go_at_call 27; (with_reducible refine (HI.out _).mono ?_); rintro x w1 ⟨rfl, rfl⟩))
  have H4 := Lib.hid (H2.out.set 22 (.int .i64 tr) (e' := ⟨true, 2, 1, P, (true, z16), false, tr, Y, [], []⟩) rfl (z16_ok _))
  generalize World.setCell _ _ _ = W4 at H4 ⊢
  clear H2 c0 c1 c2 d3 d6 d7 f3 f6 f7 rt fr
  have H2 := H4
  clear H4
  obtain ⟨c0, c1, c2, d3, d6, d7, f3, f6, f7, rt, fr⟩ := H2.out.facts
  simp only at c0 c1 c2 d3 d6 d7
  go_wp2
  obtain ⟨y1, y2⟩ := resDone H2.out.res H2.out.blw (by omega) (tkC ⟨true, 2, 1, P, (true, z16), false, tr, Y, [], []⟩ (.slice none 0 0) (.slice none 0 0)) (by rw [tkC_length (z16_ok _)]; rfl)
  exact bodyPost_ret (results_cell Try.results21 rfl (ld_some y1 (ldr_tk _ _ _))) rfl ⟨by rw [HE.out], y2⟩
theorem tquery_any (t : TN) (v6 : Bool) (n : Int) (hg : gdN t = true) (w : World) : Calls Try.prog 21 #[.agg (tnC t).toArray, .bool v6, .int .i64 n] w fun x w' => x = .returned (.agg (tkC (queryT t v6 n) (.slice none 0 0) (.slice none 0 0)).toArray) ∧ Below w.heap.size w w' := by
  have h := verQ_in v6 n
  cases v6 with
  | false =>
    have h3 : newV false = 3 := rfl
    have hc : verQ false n = 1 ∨ verQ false n = 2 ∨ verQ false n = 3 := by omega
    rcases hc with hc | hc | hc
    · exact tqry14_false1 t n hg hc w
    · exact tqry14_false2 t n hg hc w
    · exact tqry14_false3 t n hg hc w
  | true =>
    have h3 : newV true = 2 := rfl
    have hc : verQ true n = 1 ∨ verQ true n = 2 := by omega
    rcases hc with hc | hc
    · exact tqry14_true1 t n hg hc w
    · exact tqry14_true2 t n hg hc w
end Go.Proofs.Ytlkihfmojnghhaa
