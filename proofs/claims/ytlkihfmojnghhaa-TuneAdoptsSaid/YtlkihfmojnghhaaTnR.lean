/-
  Layer 14: the document's answers.
-/
import Derived.Test.YtlkihfmojnghhaaMg37
import Derived.Test.YtlkihfmojnghhaaCodR
import Derived.Test.YtlkihfmojnghhaaMg38
namespace Go.Proofs.Ytlkihfmojnghhaa
open Go.RowKit
set_option linter.unusedVariables false
set_option linter.unusedSimpArgs false
attribute [local go_sem ↓] ld_addr st_addr bld_addr ld_tk st_tk bld_tk ld_tn st_tn bld_tn
attribute [local go_sem] ldr_addr str_addr ldr_tk str_tk ldr_tn str_tn row?_drewN_eq row?_drew_eq

theorem ret_intF {a b : Int} (h : a = b) : Ending.returned (.int .i64 a) = .returned (.int .i64 b) := by rw [h]
theorem gdN_prod {t : TN} (h : gdN t = true) : 0 ≤ t.rob * t.every ∧ t.rob * t.every ≤ 2222080 := by
  rw [gdN_iff] at h
  refine ⟨Int.mul_nonneg (by omega) (by omega), ?_⟩
  exact Int.le_trans (Int.mul_le_mul_of_nonneg_right (by omega : t.rob ≤ 7) (by omega)) (by omega)
theorem gdN_fin {t : TN} (h : gdN t = true) : 0 ≤ t.last * t.cnt ∧ t.last * t.cnt ≤ 222208 := by
  rw [gdN_iff] at h
  refine ⟨Int.mul_nonneg (by omega) (by omega), ?_⟩
  exact Int.le_trans (Int.mul_le_mul_of_nonneg_left (by omega : t.cnt ≤ 7) (by omega)) (by omega)

set_option maxRecDepth 100000 in
set_option maxHeartbeats 2000000 in
theorem rgood14_any (t : TN) (w : World) : Calls Try.prog 8 #[.agg (tnC t).toArray] w fun x w' => x = .returned (.bool (gdN t)) ∧ Below w.heap.size w w' := by
  obtain ⟨rob, every, resp, last, cnt⟩ := t
  have H0 := Lib.hid (ObjAt.made w (tnC ⟨rob, every, resp, last, cnt⟩).toArray 23)
  have HB := Lib.hid (bbox w (.cells (tnC ⟨rob, every, resp, last, cnt⟩).toArray 23))
  obtain ⟨R, hR⟩ : ∃ R, R = gdN ⟨rob, every, resp, last, cnt⟩ := ⟨_, rfl⟩
  rw [← hR]
  have HR : Hid (R = true ↔ (1 ≤ rob ∧ rob ≤ 7 ∧ 1 ≤ cnt ∧ cnt ≤ 7 ∧ 1 ≤ every ∧ every ≤ 317440 ∧ 1 ≤ resp ∧ resp ≤ 31744 ∧ 1 ≤ last ∧ last ≤ 31744 ∧ resp ≤ every)) := Lib.hid (by rw [hR]; exact gdN_iff)
  clear hR
  go_enter Try.func8, Try.ntmps8
  go_upto_region 1 with (fail)
  generalize w.alloc (.cells _ _) = W at H0 HB ⊢
  obtain ⟨c0, c1, c2, c3, c4⟩ := tn_c H0.out
  simp only at c0 c1 c2 c3 c4
  by_cases h0 : rob < 1
  · have HE : Hid (R = false) := Lib.hid (by cases R with | false => rfl | true => (exfalso; have := HR.out.1 rfl; omega))
    clear HR
    go_wp2
    go_ret
    exact ⟨ret_boolF HE.out.symm, HB.out⟩
  by_cases h1 : 7 < rob
  · have HE : Hid (R = false) := Lib.hid (by cases R with | false => rfl | true => (exfalso; have := HR.out.1 rfl; omega))
    clear HR
    go_wp2
    go_ret
    exact ⟨ret_boolF HE.out.symm, HB.out⟩
  by_cases h2 : cnt < 1
  · have HE : Hid (R = false) := Lib.hid (by cases R with | false => rfl | true => (exfalso; have := HR.out.1 rfl; omega))
    clear HR
    go_wp2
    go_ret
    exact ⟨ret_boolF HE.out.symm, HB.out⟩
  by_cases h3 : 7 < cnt
  · have HE : Hid (R = false) := Lib.hid (by cases R with | false => rfl | true => (exfalso; have := HR.out.1 rfl; omega))
    clear HR
    go_wp2
    go_ret
    exact ⟨ret_boolF HE.out.symm, HB.out⟩
  by_cases h4 : every < 1
  · have HE : Hid (R = false) := Lib.hid (by cases R with | false => rfl | true => (exfalso; have := HR.out.1 rfl; omega))
    clear HR
    go_wp2
    go_ret
    exact ⟨ret_boolF HE.out.symm, HB.out⟩
  by_cases h5 : 317440 < every
  · have HE : Hid (R = false) := Lib.hid (by cases R with | false => rfl | true => (exfalso; have := HR.out.1 rfl; omega))
    clear HR
    go_wp2
    go_ret
    exact ⟨ret_boolF HE.out.symm, HB.out⟩
  by_cases h6 : ¬ 0 < resp
  · have HE : Hid (R = false) := Lib.hid (by cases R with | false => rfl | true => (exfalso; have := HR.out.1 rfl; omega))
    clear HR
    go_wp2
    go_ret
    exact ⟨ret_boolF HE.out.symm, HB.out⟩
  by_cases h7 : ¬ resp < 31745
  · have HE : Hid (R = false) := Lib.hid (by cases R with | false => rfl | true => (exfalso; have := HR.out.1 rfl; omega))
    clear HR
    go_wp2
    go_ret
    exact ⟨ret_boolF HE.out.symm, HB.out⟩
  by_cases h8 : ¬ 0 < last
  · have HE : Hid (R = false) := Lib.hid (by cases R with | false => rfl | true => (exfalso; have := HR.out.1 rfl; omega))
    clear HR
    go_wp2
    go_ret
    exact ⟨ret_boolF HE.out.symm, HB.out⟩
  by_cases h9 : ¬ last < 31745
  · have HE : Hid (R = false) := Lib.hid (by cases R with | false => rfl | true => (exfalso; have := HR.out.1 rfl; omega))
    clear HR
    go_wp2
    go_ret
    exact ⟨ret_boolF HE.out.symm, HB.out⟩
  by_cases h10 : ¬ resp ≤ every
  · have HE : Hid (R = false) := Lib.hid (by cases R with | false => rfl | true => (exfalso; have := HR.out.1 rfl; omega))
    clear HR
    go_wp2
    go_ret
    exact ⟨ret_boolF HE.out.symm, HB.out⟩
  have HE : Hid (R = true) := Lib.hid (HR.out.2 (by omega))
  clear HR
  go_wp2
  go_ret
  exact ⟨ret_boolF HE.out.symm, HB.out⟩
set_option maxRecDepth 100000 in
theorem rmember_any (t : TN) (hg : gdN t = true) (w : World) : Calls Try.prog 12 #[.agg (tnC t).toArray] w fun x w' => x = .returned (.int .i64 (t.rob * t.every + t.resp)) ∧ Below w.heap.size w w' := by
  obtain ⟨p0, p1⟩ := gdN_prod hg
  obtain ⟨q0, q1⟩ := gdN_fin hg
  have hb := gdN_iff.1 hg
  clear hg
  have H0 := Lib.hid (ObjAt.made w (tnC t).toArray 23)
  have HB := Lib.hid (bbox w (.cells (tnC t).toArray 23))
  have w1 : IntKind.i64.wrap (t.rob * t.every) = t.rob * t.every := by simp only [IntKind.wrap_i64]; omega
  have w2 : IntKind.i64.wrap (t.rob * t.every + t.resp) = t.rob * t.every + t.resp := by simp only [IntKind.wrap_i64]; omega
  go_enter Try.func12, Try.ntmps12
  go_upto_region 1 with (fail)
  generalize w.alloc (.cells _ _) = W at H0 HB ⊢
  obtain ⟨c0, c1, c2, c3, c4⟩ := tn_c H0.out
  go_wp2
  go_ret
  exact ⟨rfl, HB.out⟩
set_option maxRecDepth 100000 in
theorem rother_any (t : TN) (hg : gdN t = true) (w : World) : Calls Try.prog 14 #[.agg (tnC t).toArray] w fun x w' => x = .returned (.int .i64 (t.rob * t.every + t.resp / 2)) ∧ Below w.heap.size w w' := by
  obtain ⟨p0, p1⟩ := gdN_prod hg
  obtain ⟨q0, q1⟩ := gdN_fin hg
  have hb := gdN_iff.1 hg
  clear hg
  have H0 := Lib.hid (ObjAt.made w (tnC t).toArray 23)
  have HB := Lib.hid (bbox w (.cells (tnC t).toArray 23))
  have w1 : IntKind.i64.wrap (t.rob * t.every) = t.rob * t.every := by simp only [IntKind.wrap_i64]; omega
  have w2 : IntKind.i64.wrap (t.rob * t.every + t.resp / 2) = t.rob * t.every + t.resp / 2 := by simp only [IntKind.wrap_i64]; omega
  have w3 : IntKind.i64.wrap (t.resp / 2) = t.resp / 2 := by simp only [IntKind.wrap_i64]; omega
  have w4 : t.resp.tdiv 2 = t.resp / 2 := Int.tdiv_eq_ediv_of_nonneg (by omega)
  go_enter Try.func14, Try.ntmps14
  go_upto_region 1 with (fail)
  generalize w.alloc (.cells _ _) = W at H0 HB ⊢
  obtain ⟨c0, c1, c2, c3, c4⟩ := tn_c H0.out
  go_wp2
  go_ret
  exact ⟨rfl, HB.out⟩
set_option maxRecDepth 100000 in
theorem rfinal_any (t : TN) (hg : gdN t = true) (w : World) : Calls Try.prog 18 #[.agg (tnC t).toArray] w fun x w' => x = .returned (.int .i64 (t.last * t.cnt)) ∧ Below w.heap.size w w' := by
  obtain ⟨p0, p1⟩ := gdN_prod hg
  obtain ⟨q0, q1⟩ := gdN_fin hg
  have hb := gdN_iff.1 hg
  clear hg
  have H0 := Lib.hid (ObjAt.made w (tnC t).toArray 23)
  have HB := Lib.hid (bbox w (.cells (tnC t).toArray 23))
  have w1 : IntKind.i64.wrap (t.last * t.cnt) = t.last * t.cnt := by simp only [IntKind.wrap_i64]; omega
  go_enter Try.func18, Try.ntmps18
  go_upto_region 1 with (fail)
  generalize w.alloc (.cells _ _) = W at H0 HB ⊢
  obtain ⟨c0, c1, c2, c3, c4⟩ := tn_c H0.out
  go_wp2
  go_ret
  exact ⟨rfl, HB.out⟩
set_option maxRecDepth 100000 in
theorem rgap_any (t : TN) (hg : gdN t = true) (w : World) : Calls Try.prog 16 #[.agg (tnC t).toArray] w fun x w' => x = .returned (.int .i64 (gapN t)) ∧ Below w.heap.size w w' := by
  have hb := gdN_iff.1 hg
  clear hg
  have H0 := Lib.hid (ObjAt.made w (tnC t).toArray 23)
  have HB := Lib.hid (bbox w (.cells (tnC t).toArray 23))
  have w3 : IntKind.i64.wrap (t.every / 4) = t.every / 4 := by simp only [IntKind.wrap_i64]; omega
  have w4 : t.every.tdiv 4 = t.every / 4 := Int.tdiv_eq_ediv_of_nonneg (by omega)
  unfold gapN
  generalize t.every / 4 = q at *
  by_cases h : 1 < q
  · rw [if_pos h]
    go_enter Try.func16, Try.ntmps16
    go_upto_region 1 with (fail)
    generalize w.alloc (.cells _ _) = W at H0 HB ⊢
    obtain ⟨c0, c1, c2, c3, c4⟩ := tn_c H0.out
    go_wp2
    go_ret
    exact ⟨rfl, HB.out⟩
  · rw [if_neg h]
    go_enter Try.func16, Try.ntmps16
    go_upto_region 1 with (fail)
    generalize w.alloc (.cells _ _) = W at H0 HB ⊢
    obtain ⟨c0, c1, c2, c3, c4⟩ := tn_c H0.out
    go_wp2
    go_ret
    exact ⟨rfl, HB.out⟩
set_option maxRecDepth 100000 in
theorem rfull_any (q : TK) (us ur : Value) (w : World) (ho : adOk q.g) : Calls Try.prog 32 #[.agg (tkC q us ur).toArray] w fun x w' => x = .returned (.bool (fullQ q)) ∧ Below w.heap.size w w' := by
  have H0 := Lib.hid (TkAt.made w q us ur ho)
  have HB := Lib.hid (bbox w (.cells (tkC q us ur).toArray 35))
  obtain ⟨R, hR⟩ : ∃ R, R = fullQ q := ⟨_, rfl⟩
  rw [← hR]
  have HR := Lib.hid hR; clear hR ho
  go_enter Try.func32, Try.ntmps32
  go_upto_region 1 with (fail)
  generalize w.alloc (.cells (tkC q us ur).toArray 35) = W at H0 HB ⊢
  have c0 := H0.out.v6
  have c1 := H0.out.ver
  have c2 := H0.out.kind
  obtain ⟨v, hv⟩ : ∃ v, v = q.v6 := ⟨_, rfl⟩
  obtain ⟨n, hn⟩ : ∃ n, n = q.ver := ⟨_, rfl⟩
  obtain ⟨k, hk⟩ : ∃ k, k = q.kind := ⟨_, rfl⟩
  rw [← hv] at c0
  rw [← hn] at c1
  rw [← hk] at c2
  have HR2 : Hid (R = decide (k = 1 ∧ n = newV v)) := Lib.hid (by rw [HR.out, hv, hn, hk]; rfl)
  clear hv hn hk H0 HR
  cases v
  all_goals (
    by_cases h : k = 1
    · subst h
      go_wp2
      go_ret
      exact ⟨ret_boolF (by rw [HR2.out]; simp [newV]; try rfl), HB.out⟩
    · have hd : (k == 1) = false := by simpa using h
      go_wp2
      go_ret
      exact ⟨ret_boolF (by rw [HR2.out]; simp [h]), HB.out⟩)
def zeroN : TN := ⟨0, 0, 0, 0, 0⟩
/-- Adopt's blocks: the parameters, the query, the result, and what is made of them. -/
structure Ad4 (w W : World) (t : TN) (q : TK) (us ur : Value) (e : TN) : Prop where
  one : ObjAt W w.heap.size (tnC t).toArray 23
  two : TkAt W (w.heap.size + 1) q us ur
  three : ObjAt W (w.heap.size + 1 + 1) (tnC zeroN).toArray 23
  four : ObjAt W (w.heap.size + 1 + 1 + 1) (tnC e).toArray 23
  blw : Below w.heap.size w W
theorem Ad4.set {w W : World} {t : TN} {q : TK} {us ur : Value} {e e' : TN} (h : Ad4 w W t q us ur e) (j : Nat) (v : Value) (he : (tnC e).set j v = tnC e') : Ad4 w (W.setCell ⟨w.heap.size + 1 + 1 + 1, j, none⟩ v) t q us ur e' := by
  refine ⟨h.one.other _ _ (by simp <;> omega), ⟨h.two.1.other _ _ (by simp <;> omega), h.two.2⟩, h.three.other _ _ (by simp <;> omega), ?_, h.blw.setCell (p := ⟨w.heap.size + 1 + 1 + 1, j, none⟩) (by simp <;> omega) v⟩
  have := h.four.set j v
  rwa [List.setIfInBounds_toArray, he] at this
theorem Ad4.below {w W W' : World} {t : TN} {q : TK} {us ur : Value} {e : TN} (h : Ad4 w W t q us ur e) (hb : Below W.heap.size W W') : Ad4 w W' t q us ur e := ⟨obj_keep h.one hb, h.two.below hb, obj_keep h.three hb, obj_keep h.four hb, bstep h.blw hb⟩
theorem Ad4.start (w : World) (t : TN) (q : TK) (us ur : Value) (ho : adOk q.g) : Ad4 w (aggW ((((w.alloc (.cells (tnC t).toArray 23)).alloc (.cells (tkC q us ur).toArray 35)).alloc (.cells (tnC zeroN).toArray 23)).alloc (.cells (tnC zeroN).toArray 23)) (w.heap.size + 1 + 1 + 1) (tnC t)) t q us ur t := by
  have a1 := ObjAt.made w (tnC t).toArray 23
  have a2 := TkAt.made (w.alloc (.cells (tnC t).toArray 23)) q us ur ho
  have s1 : (w.alloc (.cells (tnC t).toArray 23)).heap.size = w.heap.size + 1 := by simp
  rw [s1] at a2
  generalize hX : w.alloc (.cells (tnC t).toArray 23) = X at *
  have bX : Below w.heap.size w X := hX ▸ bbox w _
  have a3 := ObjAt.made (X.alloc (.cells (tkC q us ur).toArray 35)) (tnC zeroN).toArray 23
  have s2 : (X.alloc (.cells (tkC q us ur).toArray 35)).heap.size = w.heap.size + 1 + 1 := by simp [s1]
  rw [s2] at a3
  have bY : Below w.heap.size w (X.alloc (.cells (tkC q us ur).toArray 35)) := bX.alloc (by omega) _
  have a1' := a1.alloc (.cells (tkC q us ur).toArray 35)
  generalize X.alloc (.cells (tkC q us ur).toArray 35) = Y at *
  have bZ := bY.alloc (by omega) (.cells (tnC zeroN).toArray 23)
  have s3 : (Y.alloc (.cells (tnC zeroN).toArray 23)).heap.size = w.heap.size + 1 + 1 + 1 := by simp [s2]
  have b1 := a1'.alloc (.cells (tnC zeroN).toArray 23)
  have b2 := a2.1.alloc (.cells (tnC zeroN).toArray 23)
  generalize Y.alloc (.cells (tnC zeroN).toArray 23) = Z at *
  rw [← s3]
  have h4 := newObj Z (tnC zeroN).toArray 23 (L := tnC t) rfl (tn_one t)
  have h5 : Below w.heap.size w (aggW (Z.alloc (.cells (tnC zeroN).toArray 23)) Z.heap.size (tnC t)) := bstep bZ (newBlw Z _ _)
  exact ⟨keepNew b1, ⟨keepNew b2, ho⟩, keepNew a3, by rw [← s3]; exact h4, h5⟩

set_option maxRecDepth 100000 in
set_option maxHeartbeats 2000000 in
theorem radopt_any (t : TN) (q : TK) (us ur : Value) (ho : adOk q.g) (hg : gdN t = true) (w : World) : Calls Try.prog 20 #[.agg (tnC t).toArray, .agg (tkC q us ur).toArray] w fun x w' => x = .returned (.agg (tnC (adoptN t q)).toArray) ∧ Below w.heap.size w w' := by
  obtain ⟨tr, te, m, tl, tc⟩ := t
  obtain ⟨v6, ver, kind, resp, g, quiet, r, n, src, rcs⟩ := q
  have H0 : Hid (Ad4 w (aggW ((((w.alloc (.cells (tnC ⟨tr, te, m, tl, tc⟩).toArray 23)).alloc (.cells (tkC ⟨v6, ver, kind, resp, g, quiet, r, n, src, rcs⟩ us ur).toArray 35)).alloc (.cells #[.int .i64 0, .int .i64 0, .int .i64 0, .int .i64 0, .int .i64 0] 23)).alloc (.cells #[.int .i64 0, .int .i64 0, .int .i64 0, .int .i64 0, .int .i64 0] 23)) (w.heap.size + 1 + 1 + 1) (tnC ⟨tr, te, m, tl, tc⟩)) ⟨tr, te, m, tl, tc⟩ ⟨v6, ver, kind, resp, g, quiet, r, n, src, rcs⟩ us ur ⟨tr, te, m, tl, tc⟩) := Lib.hid (Ad4.start w _ _ us ur ho)
  have HF := Lib.hid (fun W => rfull_any ⟨v6, ver, kind, resp, g, quiet, r, n, src, rcs⟩ us ur W ho)
  have hb := gdN_iff.1 hg
  simp only at hb
  have hb2 : 1 ≤ m ∧ m ≤ 31744 := by omega
  obtain ⟨A, hA⟩ : ∃ A, A = adoptN ⟨tr, te, m, tl, tc⟩ ⟨v6, ver, kind, resp, g, quiet, r, n, src, rcs⟩ := ⟨_, rfl⟩
  rw [← hA]
  have HA : Hid (A = if fullQ ⟨v6, ver, kind, resp, g, quiet, r, n, src, rcs⟩ then ⟨if 0 < r ∧ r < 8 then r else tr, if n ≤ 0 then te else if 31743 < n then 317440 else if 10 * n < m then m else 10 * n, m, tl, tc⟩ else ⟨tr, te, m, tl, tc⟩) := Lib.hid hA
  have HC : Hid (∀ (W : World) (e : TN), Ad4 w W ⟨tr, te, m, tl, tc⟩ ⟨v6, ver, kind, resp, g, quiet, r, n, src, rcs⟩ us ur e → W.cell? ⟨w.heap.size + 1, 22, none⟩ = some (.int .i64 r) ∧ W.cell? ⟨w.heap.size + 1, 23, none⟩ = some (.int .i64 n) ∧ W.cell? ⟨w.heap.size, 2, none⟩ = some (.int .i64 m) ∧ W.cell? ⟨w.heap.size + 1 + 1 + 1, 1, none⟩ = some (.int .i64 e.every) ∧ W.cell? ⟨w.heap.size + 1 + 1 + 1, 0, none⟩ = some (.int .i64 e.rob) ∧ row? W (w.heap.size + 1 + 1 + 1) 0 5 = some (tnC e) ∧ W.frozen? ⟨w.heap.size + 1 + 1 + 1, 0, none⟩ = false ∧ W.frozen? ⟨w.heap.size + 1 + 1 + 1, 1, none⟩ = false ∧ free? W (w.heap.size + 1 + 1) 0 5 = true) := Lib.hid fun W e h =>
    ⟨h.two.rob, h.two.every, (tn_c h.one).2.2.1, (tn_c h.four).2.1, (tn_c h.four).1, tn_row h.four, h.four.free 0, h.four.free 1, obj_free_at h.three 0 5 (Nat.le_refl _)⟩
  have HRW := Lib.hid (fun (W : World) (e : TN) (h : Ad4 w W ⟨tr, te, m, tl, tc⟩ ⟨v6, ver, kind, resp, g, quiet, r, n, src, rcs⟩ us ur e) => h.two.row)
  have hfk := fok_tn
  have hfz : free? ((((w.alloc (.cells (tnC ⟨tr, te, m, tl, tc⟩).toArray 23)).alloc (.cells (tkC ⟨v6, ver, kind, resp, g, quiet, r, n, src, rcs⟩ us ur).toArray 35)).alloc (.cells #[.int .i64 0, .int .i64 0, .int .i64 0, .int .i64 0, .int .i64 0] 23)).alloc (.cells #[.int .i64 0, .int .i64 0, .int .i64 0, .int .i64 0, .int .i64 0] 23)) (w.heap.size + 1 + 1 + 1) 0 5 = true := by
    have h := fmade (((w.alloc (.cells (tnC ⟨tr, te, m, tl, tc⟩).toArray 23)).alloc (.cells (tkC ⟨v6, ver, kind, resp, g, quiet, r, n, src, rcs⟩ us ur).toArray 35)).alloc (.cells #[.int .i64 0, .int .i64 0, .int .i64 0, .int .i64 0, .int .i64 0] 23)) #[.int .i64 0, .int .i64 0, .int .i64 0, .int .i64 0, .int .i64 0] 23 5 rfl
    rwa [show (((w.alloc (.cells (tnC ⟨tr, te, m, tl, tc⟩).toArray 23)).alloc (.cells (tkC ⟨v6, ver, kind, resp, g, quiet, r, n, src, rcs⟩ us ur).toArray 35)).alloc (.cells #[.int .i64 0, .int .i64 0, .int .i64 0, .int .i64 0, .int .i64 0] 23)).heap.size = w.heap.size + 1 + 1 + 1 by simp] at h
  have hR0 : row? (((w.alloc (.cells (tnC ⟨tr, te, m, tl, tc⟩).toArray 23)).alloc (.cells (tkC ⟨v6, ver, kind, resp, g, quiet, r, n, src, rcs⟩ us ur).toArray 35)).alloc (.cells #[.int .i64 0, .int .i64 0, .int .i64 0, .int .i64 0, .int .i64 0] 23)) w.heap.size 0 5 = some (tnC ⟨tr, te, m, tl, tc⟩) := tn_row (((ObjAt.made w _ _).alloc _).alloc _)
  clear hA hg ho hb
  generalize fullQ ⟨v6, ver, kind, resp, g, quiet, r, n, src, rcs⟩ = R at *
  go_enter Try.func20, Try.ntmps20
  go_upto_region 2 with (fail)
  generalize aggW _ (w.heap.size + 1 + 1 + 1) _ = W at H0 ⊢
  clear hR0 hfz
  have r2 := HRW.out _ _ H0.out
  clear HRW
  cases R with
  | false =>
    have HE : Hid (A = ⟨tr, te, m, tl, tc⟩) := Lib.hid (by rw [HA.out]; rfl)
    clear HA
    go_upto_region 3 with (go_at_call 32; (with_reducible refine (HF.out _).mono ?_); rintro x w1 ⟨rfl, hb1⟩; have H1 := Lib.hid (H0.out.below hb1); clear hb1)
    clear r2
    obtain ⟨k6, k7, k2, b1, b0, r3, f0, f1, ff⟩ := HC.out _ _ H1.out
    simp only at b0 b1
    go_wp2
    obtain ⟨q1, q2⟩ := resDone H1.out.three H1.out.blw (by omega) (tnC ⟨tr, te, m, tl, tc⟩) rfl
    exact bodyPost_ret (results_cell Try.results20 rfl (ld_some q1 (ldr_tn _ _ _))) rfl ⟨by rw [HE.out], q2⟩
  | true =>
    replace HA : Hid (A = ⟨if 0 < r ∧ r < 8 then r else tr, if n ≤ 0 then te else if 31743 < n then 317440 else if 10 * n < m then m else 10 * n, m, tl, tc⟩) := Lib.hid (by rw [HA.out]; rfl)
    go_upto_region 4 with (go_at_call 32; (with_reducible refine (HF.out _).mono ?_); rintro x w1 ⟨rfl, hb1⟩; have H1 := Lib.hid (H0.out.below hb1); clear hb1)
    clear r2 HF H0
    obtain ⟨k6, k7, k2, b1, b0, r3, f0, f1, ff⟩ := HC.out _ _ H1.out
    simp only at b0 b1
    by_cases hr : 0 < r ∧ r < 8
    · rw [if_pos hr] at HA
      obtain ⟨hr1, hr2⟩ := hr
      go_upto_region 6 with (fail)
      have H2 := Lib.hid (H1.out.set 0 (.int .i64 r) (e' := ⟨r, te, m, tl, tc⟩) rfl)
      generalize World.setCell _ _ _ = W2 at H2 ⊢
      clear k6 k7 k2 b1 b0 r3 f0 f1 ff H1
      by_cases h1 : n ≤ 0
      · have HE : Hid (A = ⟨r, te, m, tl, tc⟩) := Lib.hid (by rw [HA.out, if_pos h1])
        have g1 : ¬ 31743 < n := by omega
        have g2 : ¬ 0 < n := by omega
        clear HA h1
        obtain ⟨k6, k7, k2, b1, b0, r3, f0, f1, ff⟩ := HC.out _ _ H2.out
        simp only at b0 b1
        go_wp2
        obtain ⟨q1, q2⟩ := resDone H2.out.three H2.out.blw (by omega) (tnC ⟨r, te, m, tl, tc⟩) rfl
        exact bodyPost_ret (results_cell Try.results20 rfl (ld_some q1 (ldr_tn _ _ _))) rfl ⟨by rw [HE.out], q2⟩
      by_cases h2 : 31743 < n
      · have HE : Hid (A = ⟨r, 317440, m, tl, tc⟩) := Lib.hid (by rw [HA.out, if_neg h1, if_pos h2])
        have g2 : 0 < n := by omega
        have g3 : ¬ 317440 < m := by omega
        clear HA h1
        obtain ⟨k6, k7, k2, b1, b0, r3, f0, f1, ff⟩ := HC.out _ _ H2.out
        simp only at b0 b1
        go_upto_region 10 with (fail)
        have H5 := Lib.hid (H2.out.set 1 (.int .i64 317440) (e' := ⟨r, 317440, m, tl, tc⟩) rfl)
        generalize World.setCell _ _ _ = W5 at H5 ⊢
        clear k6 k7 k2 b1 b0 r3 f0 f1 ff
        obtain ⟨k6, k7, k2, b1, b0, r3, f0, f1, ff⟩ := HC.out _ _ H5.out
        simp only at b0 b1
        go_wp2
        obtain ⟨q1, q2⟩ := resDone H5.out.three H5.out.blw (by omega) (tnC ⟨r, 317440, m, tl, tc⟩) rfl
        exact bodyPost_ret (results_cell Try.results20 rfl (ld_some q1 (ldr_tn _ _ _))) rfl ⟨by rw [HE.out], q2⟩
      have g2 : 0 < n := by omega
      have hw : IntKind.i64.wrap (10 * n) = 10 * n := by simp only [IntKind.wrap_i64]; omega
      obtain ⟨k6, k7, k2, b1, b0, r3, f0, f1, ff⟩ := HC.out _ _ H2.out
      simp only at b0 b1
      go_upto_region 10 with (fail)
      have H5 := Lib.hid (H2.out.set 1 (.int .i64 (10 * n)) (e' := ⟨r, 10 * n, m, tl, tc⟩) rfl)
      generalize World.setCell _ _ _ = W5 at H5 ⊢
      clear k6 k7 k2 b1 b0 r3 f0 f1 ff
      obtain ⟨k6, k7, k2, b1, b0, r3, f0, f1, ff⟩ := HC.out _ _ H5.out
      simp only at b0 b1
      by_cases h3 : 10 * n < m
      · have HE : Hid (A = ⟨r, m, m, tl, tc⟩) := Lib.hid (by rw [HA.out, if_neg h1, if_neg h2, if_pos h3])
        have g3 : ¬ 317440 < m := by omega
        clear HA h1 h2
        go_upto_region 12 with (fail)
        have H6 := Lib.hid (H5.out.set 1 (.int .i64 m) (e' := ⟨r, m, m, tl, tc⟩) rfl)
        generalize World.setCell _ _ _ = W6 at H6 ⊢
        clear k6 k7 k2 b1 b0 r3 f0 f1 ff
        obtain ⟨k6, k7, k2, b1, b0, r3, f0, f1, ff⟩ := HC.out _ _ H6.out
        simp only at b0 b1
        go_wp2
        obtain ⟨q1, q2⟩ := resDone H6.out.three H6.out.blw (by omega) (tnC ⟨r, m, m, tl, tc⟩) rfl
        exact bodyPost_ret (results_cell Try.results20 rfl (ld_some q1 (ldr_tn _ _ _))) rfl ⟨by rw [HE.out], q2⟩
      · have HE : Hid (A = ⟨r, 10 * n, m, tl, tc⟩) := Lib.hid (by rw [HA.out, if_neg h1, if_neg h2, if_neg h3])
        have g3 : ¬ 317440 < 10 * n := by omega
        clear HA h1 h2
        go_wp2
        obtain ⟨q1, q2⟩ := resDone H5.out.three H5.out.blw (by omega) (tnC ⟨r, 10 * n, m, tl, tc⟩) rfl
        exact bodyPost_ret (results_cell Try.results20 rfl (ld_some q1 (ldr_tn _ _ _))) rfl ⟨by rw [HE.out], q2⟩
    · rw [if_neg hr] at HA
      have hd : (0 < r → r < 8 → False) := fun a b => hr ⟨a, b⟩
      by_cases hr1 : 0 < r
      · have hr2 : ¬ r < 8 := fun b => hr ⟨hr1, b⟩
        clear hr hd
        go_upto_region 6 with (fail)
        clear k6 k7 k2 b1 b0 r3 f0 f1 ff
        by_cases h1 : n ≤ 0
        · have HE : Hid (A = ⟨tr, te, m, tl, tc⟩) := Lib.hid (by rw [HA.out, if_pos h1])
          have g1 : ¬ 31743 < n := by omega
          have g2 : ¬ 0 < n := by omega
          clear HA h1
          obtain ⟨k6, k7, k2, b1, b0, r3, f0, f1, ff⟩ := HC.out _ _ H1.out
          simp only at b0 b1
          go_wp2
          obtain ⟨q1, q2⟩ := resDone H1.out.three H1.out.blw (by omega) (tnC ⟨tr, te, m, tl, tc⟩) rfl
          exact bodyPost_ret (results_cell Try.results20 rfl (ld_some q1 (ldr_tn _ _ _))) rfl ⟨by rw [HE.out], q2⟩
        by_cases h2 : 31743 < n
        · have HE : Hid (A = ⟨tr, 317440, m, tl, tc⟩) := Lib.hid (by rw [HA.out, if_neg h1, if_pos h2])
          have g2 : 0 < n := by omega
          have g3 : ¬ 317440 < m := by omega
          clear HA h1
          obtain ⟨k6, k7, k2, b1, b0, r3, f0, f1, ff⟩ := HC.out _ _ H1.out
          simp only at b0 b1
          go_upto_region 10 with (fail)
          have H5 := Lib.hid (H1.out.set 1 (.int .i64 317440) (e' := ⟨tr, 317440, m, tl, tc⟩) rfl)
          generalize World.setCell _ _ _ = W5 at H5 ⊢
          clear k6 k7 k2 b1 b0 r3 f0 f1 ff
          obtain ⟨k6, k7, k2, b1, b0, r3, f0, f1, ff⟩ := HC.out _ _ H5.out
          simp only at b0 b1
          go_wp2
          obtain ⟨q1, q2⟩ := resDone H5.out.three H5.out.blw (by omega) (tnC ⟨tr, 317440, m, tl, tc⟩) rfl
          exact bodyPost_ret (results_cell Try.results20 rfl (ld_some q1 (ldr_tn _ _ _))) rfl ⟨by rw [HE.out], q2⟩
        have g2 : 0 < n := by omega
        have hw : IntKind.i64.wrap (10 * n) = 10 * n := by simp only [IntKind.wrap_i64]; omega
        obtain ⟨k6, k7, k2, b1, b0, r3, f0, f1, ff⟩ := HC.out _ _ H1.out
        simp only at b0 b1
        go_upto_region 10 with (fail)
        have H5 := Lib.hid (H1.out.set 1 (.int .i64 (10 * n)) (e' := ⟨tr, 10 * n, m, tl, tc⟩) rfl)
        generalize World.setCell _ _ _ = W5 at H5 ⊢
        clear k6 k7 k2 b1 b0 r3 f0 f1 ff
        obtain ⟨k6, k7, k2, b1, b0, r3, f0, f1, ff⟩ := HC.out _ _ H5.out
        simp only at b0 b1
        by_cases h3 : 10 * n < m
        · have HE : Hid (A = ⟨tr, m, m, tl, tc⟩) := Lib.hid (by rw [HA.out, if_neg h1, if_neg h2, if_pos h3])
          have g3 : ¬ 317440 < m := by omega
          clear HA h1 h2
          go_upto_region 12 with (fail)
          have H6 := Lib.hid (H5.out.set 1 (.int .i64 m) (e' := ⟨tr, m, m, tl, tc⟩) rfl)
          generalize World.setCell _ _ _ = W6 at H6 ⊢
          clear k6 k7 k2 b1 b0 r3 f0 f1 ff
          obtain ⟨k6, k7, k2, b1, b0, r3, f0, f1, ff⟩ := HC.out _ _ H6.out
          simp only at b0 b1
          go_wp2
          obtain ⟨q1, q2⟩ := resDone H6.out.three H6.out.blw (by omega) (tnC ⟨tr, m, m, tl, tc⟩) rfl
          exact bodyPost_ret (results_cell Try.results20 rfl (ld_some q1 (ldr_tn _ _ _))) rfl ⟨by rw [HE.out], q2⟩
        · have HE : Hid (A = ⟨tr, 10 * n, m, tl, tc⟩) := Lib.hid (by rw [HA.out, if_neg h1, if_neg h2, if_neg h3])
          have g3 : ¬ 317440 < 10 * n := by omega
          clear HA h1 h2
          go_wp2
          obtain ⟨q1, q2⟩ := resDone H5.out.three H5.out.blw (by omega) (tnC ⟨tr, 10 * n, m, tl, tc⟩) rfl
          exact bodyPost_ret (results_cell Try.results20 rfl (ld_some q1 (ldr_tn _ _ _))) rfl ⟨by rw [HE.out], q2⟩
      · clear hr hd
        go_upto_region 6 with (fail)
        clear k6 k7 k2 b1 b0 r3 f0 f1 ff
        by_cases h1 : n ≤ 0
        · have HE : Hid (A = ⟨tr, te, m, tl, tc⟩) := Lib.hid (by rw [HA.out, if_pos h1])
          have g1 : ¬ 31743 < n := by omega
          have g2 : ¬ 0 < n := by omega
          clear HA h1
          obtain ⟨k6, k7, k2, b1, b0, r3, f0, f1, ff⟩ := HC.out _ _ H1.out
          simp only at b0 b1
          go_wp2
          obtain ⟨q1, q2⟩ := resDone H1.out.three H1.out.blw (by omega) (tnC ⟨tr, te, m, tl, tc⟩) rfl
          exact bodyPost_ret (results_cell Try.results20 rfl (ld_some q1 (ldr_tn _ _ _))) rfl ⟨by rw [HE.out], q2⟩
        by_cases h2 : 31743 < n
        · have HE : Hid (A = ⟨tr, 317440, m, tl, tc⟩) := Lib.hid (by rw [HA.out, if_neg h1, if_pos h2])
          have g2 : 0 < n := by omega
          have g3 : ¬ 317440 < m := by omega
          clear HA h1
          obtain ⟨k6, k7, k2, b1, b0, r3, f0, f1, ff⟩ := HC.out _ _ H1.out
          simp only at b0 b1
          go_upto_region 10 with (fail)
          have H5 := Lib.hid (H1.out.set 1 (.int .i64 317440) (e' := ⟨tr, 317440, m, tl, tc⟩) rfl)
          generalize World.setCell _ _ _ = W5 at H5 ⊢
          clear k6 k7 k2 b1 b0 r3 f0 f1 ff
          obtain ⟨k6, k7, k2, b1, b0, r3, f0, f1, ff⟩ := HC.out _ _ H5.out
          simp only at b0 b1
          go_wp2
          obtain ⟨q1, q2⟩ := resDone H5.out.three H5.out.blw (by omega) (tnC ⟨tr, 317440, m, tl, tc⟩) rfl
          exact bodyPost_ret (results_cell Try.results20 rfl (ld_some q1 (ldr_tn _ _ _))) rfl ⟨by rw [HE.out], q2⟩
        have g2 : 0 < n := by omega
        have hw : IntKind.i64.wrap (10 * n) = 10 * n := by simp only [IntKind.wrap_i64]; omega
        obtain ⟨k6, k7, k2, b1, b0, r3, f0, f1, ff⟩ := HC.out _ _ H1.out
        simp only at b0 b1
        go_upto_region 10 with (fail)
        have H5 := Lib.hid (H1.out.set 1 (.int .i64 (10 * n)) (e' := ⟨tr, 10 * n, m, tl, tc⟩) rfl)
        generalize World.setCell _ _ _ = W5 at H5 ⊢
        clear k6 k7 k2 b1 b0 r3 f0 f1 ff
        obtain ⟨k6, k7, k2, b1, b0, r3, f0, f1, ff⟩ := HC.out _ _ H5.out
        simp only at b0 b1
        by_cases h3 : 10 * n < m
        · have HE : Hid (A = ⟨tr, m, m, tl, tc⟩) := Lib.hid (by rw [HA.out, if_neg h1, if_neg h2, if_pos h3])
          have g3 : ¬ 317440 < m := by omega
          clear HA h1 h2
          go_upto_region 12 with (fail)
          have H6 := Lib.hid (H5.out.set 1 (.int .i64 m) (e' := ⟨tr, m, m, tl, tc⟩) rfl)
          generalize World.setCell _ _ _ = W6 at H6 ⊢
          clear k6 k7 k2 b1 b0 r3 f0 f1 ff
          obtain ⟨k6, k7, k2, b1, b0, r3, f0, f1, ff⟩ := HC.out _ _ H6.out
          simp only at b0 b1
          go_wp2
          obtain ⟨q1, q2⟩ := resDone H6.out.three H6.out.blw (by omega) (tnC ⟨tr, m, m, tl, tc⟩) rfl
          exact bodyPost_ret (results_cell Try.results20 rfl (ld_some q1 (ldr_tn _ _ _))) rfl ⟨by rw [HE.out], q2⟩
        · have HE : Hid (A = ⟨tr, 10 * n, m, tl, tc⟩) := Lib.hid (by rw [HA.out, if_neg h1, if_neg h2, if_neg h3])
          have g3 : ¬ 317440 < 10 * n := by omega
          clear HA h1 h2
          go_wp2
          obtain ⟨q1, q2⟩ := resDone H5.out.three H5.out.blw (by omega) (tnC ⟨tr, 10 * n, m, tl, tc⟩) rfl
          exact bodyPost_ret (results_cell Try.results20 rfl (ld_some q1 (ldr_tn _ _ _))) rfl ⟨by rw [HE.out], q2⟩
end Go.Proofs.Ytlkihfmojnghhaa
