/-
  Talks in memory, and the document's own comparison of two.
-/
import Derived.Test.YtlkihfmojnghhaaRcs
namespace Go.Proofs.Ytlkihfmojnghhaa
open Go.RowKit
set_option linter.unusedVariables false

/-- A talk as plain data. -/
structure TK where
  v6 : Bool
  ver : Int
  kind : Int
  resp : Int
  g : AD
  quiet : Bool
  rob : Int
  every : Int
  src : List AD
  rcs : List RC
  deriving DecidableEq
def tkC (t : TK) (us ur : Value) : List Value := [.bool t.v6, .int .i64 t.ver, .int .i64 t.kind, .int .i64 t.resp] ++ (adC t.g ++ [.bool t.quiet, .int .i64 t.rob, .int .i64 t.every, us, ur])
theorem tkC_length {t : TK} (h : adOk t.g) (us ur : Value) : (tkC t us ur).length = 26 := by unfold tkC; simp [adC_length h]
theorem obj_rowk {w : World} {b o n : Nat} {A M C : List Value} {t : TypeId} (h : ObjAt w b (A ++ (M ++ C)).toArray t) (ho : A.length = o) (hn : M.length = n) : row? w b o n = some M := obj_row h ho hn
/-- A talk in block b, whole. -/
def TkAt (W : World) (b : Nat) (t : TK) (us ur : Value) : Prop := ObjAt W b (tkC t us ur).toArray 35 ∧ adOk t.g
theorem TkAt.n {W : World} {b : Nat} {t : TK} {us ur : Value} (h : TkAt W b t us ur) (j : Nat) (x : Value) (hx : [Value.bool t.v6, .int .i64 t.ver, .int .i64 t.kind, .int .i64 t.resp][j]? = some x) : W.cell? ⟨b, j, none⟩ = some x := by
  have hj : j < 4 := (List.getElem?_eq_some_iff.1 hx).1
  rw [ObjAt.cell h.1, List.getElem?_toArray]
  unfold tkC
  rw [List.getElem?_append_left hj]
  exact hx
theorem TkAt.e {W : World} {b : Nat} {t : TK} {us ur : Value} (h : TkAt W b t us ur) (j : Nat) (x : Value) (hx : [Value.bool t.quiet, .int .i64 t.rob, .int .i64 t.every, us, ur][j]? = some x) : W.cell? ⟨b, 21 + j, none⟩ = some x := by
  rw [ObjAt.cell h.1, List.getElem?_toArray]
  unfold tkC
  rw [List.getElem?_append_right (by simp; omega), List.getElem?_append_right (by simp [adC_length h.2]; omega)]
  simp only [List.length_cons, List.length_nil, adC_length h.2]
  rw [show 21 + j - (0 + 1 + 1 + 1 + 1) - 17 = j by omega]
  exact hx
theorem TkAt.v6 {W : World} {b : Nat} {t : TK} {us ur : Value} (h : TkAt W b t us ur) : W.cell? ⟨b, 0, none⟩ = some (.bool t.v6) := h.n 0 _ rfl
theorem TkAt.ver {W : World} {b : Nat} {t : TK} {us ur : Value} (h : TkAt W b t us ur) : W.cell? ⟨b, 1, none⟩ = some (.int .i64 t.ver) := h.n 1 _ rfl
theorem TkAt.kind {W : World} {b : Nat} {t : TK} {us ur : Value} (h : TkAt W b t us ur) : W.cell? ⟨b, 2, none⟩ = some (.int .i64 t.kind) := h.n 2 _ rfl
theorem TkAt.resp {W : World} {b : Nat} {t : TK} {us ur : Value} (h : TkAt W b t us ur) : W.cell? ⟨b, 3, none⟩ = some (.int .i64 t.resp) := h.n 3 _ rfl
theorem TkAt.quiet {W : World} {b : Nat} {t : TK} {us ur : Value} (h : TkAt W b t us ur) : W.cell? ⟨b, 21, none⟩ = some (.bool t.quiet) := h.e 0 _ rfl
theorem TkAt.rob {W : World} {b : Nat} {t : TK} {us ur : Value} (h : TkAt W b t us ur) : W.cell? ⟨b, 22, none⟩ = some (.int .i64 t.rob) := h.e 1 _ rfl
theorem TkAt.every {W : World} {b : Nat} {t : TK} {us ur : Value} (h : TkAt W b t us ur) : W.cell? ⟨b, 23, none⟩ = some (.int .i64 t.every) := h.e 2 _ rfl
theorem TkAt.us {W : World} {b : Nat} {t : TK} {us ur : Value} (h : TkAt W b t us ur) : W.cell? ⟨b, 24, none⟩ = some us := h.e 3 _ rfl
theorem TkAt.ur {W : World} {b : Nat} {t : TK} {us ur : Value} (h : TkAt W b t us ur) : W.cell? ⟨b, 25, none⟩ = some ur := h.e 4 _ rfl
theorem TkAt.rg {W : World} {b : Nat} {t : TK} {us ur : Value} (h : TkAt W b t us ur) : row? W b 4 17 = some (adC t.g) :=
  obj_rowk (A := [.bool t.v6, .int .i64 t.ver, .int .i64 t.kind, .int .i64 t.resp]) (M := adC t.g) (C := [.bool t.quiet, .int .i64 t.rob, .int .i64 t.every, us, ur]) (by simpa [tkC] using h.1) rfl (adC_length h.2)
theorem TkAt.row {W : World} {b : Nat} {t : TK} {us ur : Value} (h : TkAt W b t us ur) : row? W b 0 26 = some (tkC t us ur) :=
  obj_rowk (A := []) (M := tkC t us ur) (C := []) (by simpa using h.1) rfl (tkC_length h.2 _ _)
theorem TkAt.below {W W' : World} {b : Nat} {t : TK} {us ur : Value} (h : TkAt W b t us ur) (hb : Below W.heap.size W W') : TkAt W' b t us ur := ⟨ObjAt.below h.1 hb h.1.lt, h.2⟩
theorem TkAt.made (w : World) (t : TK) (us ur : Value) (h : adOk t.g) : TkAt (w.alloc (.cells (tkC t us ur).toArray 35)) w.heap.size t us ur := ⟨ObjAt.made w _ _, h⟩
/-- A talk's cells by value. -/
def Tks (w : World) (cs : List Value) (t : TK) : Prop := adOk t.g ∧ ∃ us ur, cs = tkC t us ur ∧ Ads w us t.src ∧ Rcs w ur t.rcs
theorem Tks.below {w w' : World} {cs : List Value} {t : TK} (h : Tks w cs t) (hb : Below w.heap.size w w') : Tks w' cs t := by
  obtain ⟨h1, us, ur, h2, h3, h4⟩ := h
  exact ⟨h1, us, ur, h2, h3.below hb, h4.below hb⟩
/-- The shape of a talk that came in. -/
def talkS := pairS 1 boolS (pairS 1 (intS .i64) (pairS 1 (intS .i64) (pairS 1 (intS .i64) (pairS 17 addrS (pairS 1 boolS (pairS 1 (intS .i64) (pairS 1 (intS .i64) (pairS 1 (sliceS 17 addrS) (pairS 1 (sliceS 19 recS) unitS)))))))))
theorem opens_talkS : Opens Try.prog 35 talkS :=
  opens_struct Try.underlying35 (opens_cons rfl (by kernel_rfl) (of_decide_eq_true (by kernel_rfl)) (opens_bool Try.underlying4)
    (opens_cons rfl (by kernel_rfl) (of_decide_eq_true (by kernel_rfl)) (opens_int Try.underlying3)
    (opens_cons rfl (by kernel_rfl) (of_decide_eq_true (by kernel_rfl)) (opens_int Try.underlying3)
    (opens_cons rfl (by kernel_rfl) (of_decide_eq_true (by kernel_rfl)) (opens_int Try.underlying3)
    (opens_cons rfl (by kernel_rfl) (of_decide_eq_true (by kernel_rfl)) opens_addrS
    (opens_cons rfl (by kernel_rfl) (of_decide_eq_true (by kernel_rfl)) (opens_bool Try.underlying4)
    (opens_cons rfl (by kernel_rfl) (of_decide_eq_true (by kernel_rfl)) (opens_int Try.underlying3)
    (opens_cons rfl (by kernel_rfl) (of_decide_eq_true (by kernel_rfl)) (opens_int Try.underlying3)
    (opens_cons rfl (by kernel_rfl) (of_decide_eq_true (by kernel_rfl)) (opens_slice Try.underlying32 (by kernel_rfl) (by omega) opens_addrS)
    (opens_cons rfl (by kernel_rfl) (of_decide_eq_true (by kernel_rfl)) (opens_slice Try.underlying33 (by kernel_rfl) (by omega) opens_recS)
    (opens_nil (by kernel_rfl))))))))))))
theorem talkS_cells {w : World} {cs : List Value} {x : _} (h : talkS w cs x) : ∃ t : TK, Tks w cs t := by
  obtain ⟨c0, d0, rfl, _, h0, c1, d1, rfl, _, h1, c2, d2, rfl, _, h2, c3, d3, rfl, _, h3, c4, d4, rfl, _, h4, c5, d5, rfl, _, h5, c6, d6, rfl, _, h6, c7, d7, rfl, _, h7, c8, d8, rfl, l8, h8, c9, d9, rfl, l9, h9, ha⟩ := h
  have e0 : c0 = [.bool _] := h0
  obtain ⟨e1, _⟩ := h1
  obtain ⟨e2, _⟩ := h2
  obtain ⟨e3, _⟩ := h3
  obtain ⟨e4, l4⟩ := addrS_cells h4
  have e5 : c5 = [.bool _] := h5
  obtain ⟨e6, _⟩ := h6
  obtain ⟨e7, _⟩ := h7
  have ea : d9 = [] := ha
  obtain ⟨u, rfl⟩ : ∃ u, c8 = [u] := by
    match c8, l8 with
    | [u], _ => exact ⟨u, rfl⟩
  obtain ⟨v, rfl⟩ : ∃ v, c9 = [v] := by
    match c9, l9 with
    | [v], _ => exact ⟨v, rfl⟩
  subst e0 e1 e2 e3 e4 e5 e6 e7 ea
  exact ⟨⟨x.1, x.2.1, x.2.2.1, x.2.2.2.1, adOf x.2.2.2.2.1, x.2.2.2.2.2.1, x.2.2.2.2.2.2.1, x.2.2.2.2.2.2.2.1, _, _⟩, l4, u, v, by simp [tkC, adC, adOf], Ads.of h8, Rcs.of h9⟩

/-- Two talks boxed. -/
def T2 (w W : World) (a b : TK) (ua va ub vb : Value) : Prop := TkAt W w.heap.size a ua va ∧ TkAt W (w.heap.size + 1) b ub vb ∧ Below w.heap.size w W
theorem T2.made (w : World) (a b : TK) (ua va ub vb : Value) (ha : adOk a.g) (hb : adOk b.g) : T2 w ((w.alloc (.cells (tkC a ua va).toArray 35)).alloc (.cells (tkC b ub vb).toArray 35)) a b ua va ub vb := by
  have s1 : (w.alloc (.cells (tkC a ua va).toArray 35)).heap.size = w.heap.size + 1 := by simp
  refine ⟨⟨ObjAt.alloc (TkAt.made w a ua va ha).1 _, ha⟩, ?_, ((Below.refl _ _).alloc (Nat.le_refl _) _).alloc (by simp) _⟩
  have := TkAt.made (w.alloc (.cells (tkC a ua va).toArray 35)) b ub vb hb
  rw [s1] at this
  exact this
attribute [local go_sem ↓] ld_addr
attribute [local go_sem] ldr_addr

set_option maxRecDepth 100000 in
set_option maxHeartbeats 4000000 in
theorem same_any (ca cb : List Value) (a b : TK) (w : World) (ha : Tks w ca a) (hb : Tks w cb b) :
    Calls Try.prog 22 #[.agg ca.toArray, .agg cb.toArray] w fun x w' => x = .returned (.bool (decide (a = b))) ∧ Below w.heap.size w w' := by
  obtain ⟨oa, ua, va, rfl, sa, ra⟩ := ha
  obtain ⟨ob, ub, vb, rfl, sb, rb⟩ := hb
  have H0 := Lib.hid (T2.made w a b ua va ub vb oa ob)
  have HA := Lib.hid (fun W (h : Below w.heap.size w W) => sameAddrs_any ua ub a.src b.src W (sa.below h) (sb.below h))
  have HR := Lib.hid (fun W (h : Below w.heap.size w W) => sameRecords_any va vb a.rcs b.rcs W (ra.below h) (rb.below h))
  have q := fun w0 => eq_ad a.g b.g oa ob w0
  obtain ⟨R, hR⟩ : ∃ R, R = decide (a = b) := ⟨_, rfl⟩
  rw [← hR]
  have HDD := Lib.hid hR
  clear hR oa ob sa sb ra rb
  obtain ⟨a0, a1, a2, a3, a4, a5, a6, a7, a8, a9⟩ := a
  obtain ⟨b0, b1, b2, b3, b4, b5, b6, b7, b8, b9⟩ := b
  simp only at q HA HR
  have HCL : Hid (∀ W, T2 w W ⟨a0, a1, a2, a3, a4, a5, a6, a7, a8, a9⟩ ⟨b0, b1, b2, b3, b4, b5, b6, b7, b8, b9⟩ ua va ub vb → W.cell? ⟨w.heap.size, 0, none⟩ = some (.bool a0) ∧ W.cell? ⟨w.heap.size + 1, 0, none⟩ = some (.bool b0) ∧ W.cell? ⟨w.heap.size, 1, none⟩ = some (.int .i64 a1) ∧ W.cell? ⟨w.heap.size + 1, 1, none⟩ = some (.int .i64 b1) ∧ W.cell? ⟨w.heap.size, 2, none⟩ = some (.int .i64 a2) ∧ W.cell? ⟨w.heap.size + 1, 2, none⟩ = some (.int .i64 b2) ∧ W.cell? ⟨w.heap.size, 3, none⟩ = some (.int .i64 a3) ∧ W.cell? ⟨w.heap.size + 1, 3, none⟩ = some (.int .i64 b3) ∧ row? W w.heap.size 4 17 = some (adC a4) ∧ row? W (w.heap.size + 1) 4 17 = some (adC b4) ∧ W.cell? ⟨w.heap.size, 21, none⟩ = some (.bool a5) ∧ W.cell? ⟨w.heap.size + 1, 21, none⟩ = some (.bool b5) ∧ W.cell? ⟨w.heap.size, 22, none⟩ = some (.int .i64 a6) ∧ W.cell? ⟨w.heap.size + 1, 22, none⟩ = some (.int .i64 b6) ∧ W.cell? ⟨w.heap.size, 23, none⟩ = some (.int .i64 a7) ∧ W.cell? ⟨w.heap.size + 1, 23, none⟩ = some (.int .i64 b7)) := Lib.hid fun W h => ⟨h.1.v6, h.2.1.v6, h.1.ver, h.2.1.ver, h.1.kind, h.2.1.kind, h.1.resp, h.2.1.resp, h.1.rg, h.2.1.rg, h.1.quiet, h.2.1.quiet, h.1.rob, h.2.1.rob, h.1.every, h.2.1.every⟩
  have HCM : Hid (∀ W, T2 w W ⟨a0, a1, a2, a3, a4, a5, a6, a7, a8, a9⟩ ⟨b0, b1, b2, b3, b4, b5, b6, b7, b8, b9⟩ ua va ub vb → W.cell? ⟨w.heap.size, 24, none⟩ = some ua ∧ W.cell? ⟨w.heap.size + 1, 24, none⟩ = some ub ∧ W.cell? ⟨w.heap.size, 25, none⟩ = some va ∧ W.cell? ⟨w.heap.size + 1, 25, none⟩ = some vb ∧ Below w.heap.size w W) := Lib.hid fun W h => ⟨h.1.us, h.2.1.us, h.1.ur, h.2.1.ur, h.2.2⟩
  go_enter Try.func22, Try.ntmps22
  go_upto_region 1 with (fail)
  generalize (w.alloc (.cells (tkC _ ua va).toArray 35)).alloc (.cells (tkC _ ub vb).toArray 35) = W at H0 ⊢
  obtain ⟨c0, d0, c1, d1, c2, d2, c3, d3, c4, d4, c5, d5, c6, d6, c7, d7⟩ := HCL.out _ H0.out
  clear HCL

  by_cases e0 : a0 = b0
  · have t0 : (a0 != b0) = false := by simpa using e0
    by_cases e1 : a1 = b1
    · have t1 : (a1 != b1) = false := by simpa using e1
      by_cases e2 : a2 = b2
      · have t2 : (a2 != b2) = false := by simpa using e2
        by_cases e3 : a3 = b3
        · have t3 : (a3 != b3) = false := by simpa using e3
          by_cases e4 : a4 = b4
          · rw [decide_eq_true e4] at q
            generalize adC a4 = A at *
            generalize adC b4 = B at *
            by_cases e5 : a5 = b5
            · have t5 : (a5 != b5) = false := by simpa using e5
              by_cases e6 : a6 = b6
              · have t6 : (a6 != b6) = false := by simpa using e6
                by_cases e7 : a7 = b7
                · have t7 : (a7 != b7) = false := by simpa using e7
                  go_upto_region 3 with (fail)
                  clear c0 d0 c1 d1 c2 d2 c3 d3 c4 d4 c5 d5 c6 d6 c7 d7 t0 t1 t2 t3 t5 t6 t7 q
                  obtain ⟨x1, y1, x2, y2, hbW⟩ := HCM.out _ H0.out
                  have HA2 := Lib.hid (HA.out W hbW)
                  by_cases e8 : a8 = b8
                  · rw [decide_eq_true e8] at HA2
                    have HR2 := Lib.hid (fun d => HR.out (W.drewN d) (bdrewN hbW d))
                    have HV := Lib.hid (show R = decide (a9 = b9) by rw [HDD.out, e0, e1, e2, e3, e4, e5, e6, e7, e8, Bool.eq_iff_iff]; simp)
                    have HBW := Lib.hid hbW
                    clear e0 e1 e2 e3 e4 e5 e6 e7 e8 hbW HA HR HDD
                    generalize decide (a9 = b9) = r9 at *
                    go_wp2_with (first
                      | (go_at_call 37; (with_reducible refine (HA2.out).mono ?_); rintro x w1 ⟨rfl, d1, rfl⟩)
                      | (go_at_call 38; (with_reducible refine (HR2.out _).mono ?_); rintro x w1 ⟨rfl, d2, rfl⟩))
                    go_ret
                    exact ⟨ret_bool8 (by rw [HV.out]), by first | exact bdrewN (bdrewN HBW.out _) _ | exact bdrewN HBW.out _⟩
                  · rw [decide_eq_false e8] at HA2
                    have HV := Lib.hid (show R = false by rw [HDD.out, decide_eq_false_iff_not]; intro h; simp only [TK.mk.injEq] at h; exact e8 h.2.2.2.2.2.2.2.2.1)
                    have HBW := Lib.hid hbW
                    clear e0 e1 e2 e3 e4 e5 e6 e7 e8 hbW HA HR HDD
                    go_wp2_with (first
                      | (go_at_call 37; (with_reducible refine (HA2.out).mono ?_); rintro x w1 ⟨rfl, d1, rfl⟩))
                    go_ret
                    exact ⟨ret_bool8 (by rw [HV.out]), bdrewN HBW.out _⟩
                · have t7 : (a7 != b7) = true := by simpa using e7
                  have HV := Lib.hid (show R = false by rw [HDD.out, decide_eq_false_iff_not]; intro h; simp only [TK.mk.injEq] at h; exact e7 h.2.2.2.2.2.2.2.1)
                  go_wp2
                  go_ret
                  exact ⟨ret_bool8 (by rw [HV.out]), H0.out.2.2⟩
              · have t6 : (a6 != b6) = true := by simpa using e6
                have HV := Lib.hid (show R = false by rw [HDD.out, decide_eq_false_iff_not]; intro h; simp only [TK.mk.injEq] at h; exact e6 h.2.2.2.2.2.2.1)
                go_wp2
                go_ret
                exact ⟨ret_bool8 (by rw [HV.out]), H0.out.2.2⟩
            · have t5 : (a5 != b5) = true := by simpa using e5
              have HV := Lib.hid (show R = false by rw [HDD.out, decide_eq_false_iff_not]; intro h; simp only [TK.mk.injEq] at h; exact e5 h.2.2.2.2.2.1)
              go_wp2
              go_ret
              exact ⟨ret_bool8 (by rw [HV.out]), H0.out.2.2⟩
          · rw [decide_eq_false e4] at q
            generalize adC a4 = A at *
            generalize adC b4 = B at *
            have HV := Lib.hid (show R = false by rw [HDD.out, decide_eq_false_iff_not]; intro h; simp only [TK.mk.injEq] at h; exact e4 h.2.2.2.2.1)
            go_wp2
            go_ret
            exact ⟨ret_bool8 (by rw [HV.out]), H0.out.2.2⟩
        · have t3 : (a3 != b3) = true := by simpa using e3
          have HV := Lib.hid (show R = false by rw [HDD.out, decide_eq_false_iff_not]; intro h; simp only [TK.mk.injEq] at h; exact e3 h.2.2.2.1)
          go_wp2
          go_ret
          exact ⟨ret_bool8 (by rw [HV.out]), H0.out.2.2⟩
      · have t2 : (a2 != b2) = true := by simpa using e2
        have HV := Lib.hid (show R = false by rw [HDD.out, decide_eq_false_iff_not]; intro h; simp only [TK.mk.injEq] at h; exact e2 h.2.2.1)
        go_wp2
        go_ret
        exact ⟨ret_bool8 (by rw [HV.out]), H0.out.2.2⟩
    · have t1 : (a1 != b1) = true := by simpa using e1
      have HV := Lib.hid (show R = false by rw [HDD.out, decide_eq_false_iff_not]; intro h; simp only [TK.mk.injEq] at h; exact e1 h.2.1)
      go_wp2
      go_ret
      exact ⟨ret_bool8 (by rw [HV.out]), H0.out.2.2⟩
  · have t0 : (a0 != b0) = true := by simpa using e0
    have HV := Lib.hid (show R = false by rw [HDD.out, decide_eq_false_iff_not]; intro h; simp only [TK.mk.injEq] at h; exact e0 h.1)
    go_wp2
    go_ret
    exact ⟨ret_bool8 (by rw [HV.out]), H0.out.2.2⟩
end Go.Proofs.Ytlkihfmojnghhaa
