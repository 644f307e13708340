/-
  Texts joined: TkK, FrE, Tn.
-/
import Derived.Test.YtlkihfmojnghhaaTkH
import Derived.Test.YtlkihfmojnghhaaTkI
import Derived.Test.YtlkihfmojnghhaaTkJ
import Derived.Test.YtlkihfmojnghhaaMg34
import Derived.Test.YtlkihfmojnghhaaMdJ
import Derived.Test.YtlkihfmojnghhaaTell
import Derived.Test.YtlkihfmojnghhaaPureTn
/-
  The document's own Good of layer 8, of any talk.
-/
namespace Go.Proofs.Ytlkihfmojnghhaa
open Go.RowKit
theorem rgood8_all (t : TK) (us ur : Value) (w : World) (ho : t.ok) (hs : Ads w us t.src) (hr : Rcs w ur t.rcs) :
    Calls Try.prog 45 #[.agg (tkC t us ur).toArray] w fun x w' => x = .returned (.bool (good8 t)) ∧ Below w.heap.size w w' := by
  by_cases hb : t.v6 = true ∨ t.ver < 1 ∨ 3 < t.ver ∨ t.kind < 1 ∨ 3 < t.kind
  · exact rgood8_bad t us ur w ho hs hr hb _ rfl
  have hv6 : t.v6 = false := by
    cases h : t.v6
    · rfl
    · exact absurd (Or.inl h) hb
  have h1 : t.ver = 1 ∨ t.ver = 2 ∨ t.ver = 3 := by omega
  have h2 : t.kind = 1 ∨ t.kind = 2 ∨ t.kind = 3 := by omega
  rcases h1 with v | v | v <;> rcases h2 with k | k | k
  · exact rgood8_11 t us ur w ho hs hr hv6 v k _ rfl
  · exact rgood8_12 t us ur w ho hs hr hv6 v k _ rfl
  · exact rgood8_13 t us ur w ho hs hr hv6 v k _ rfl
  · exact rgood8_21 t us ur w ho hs hr hv6 v k _ rfl
  · exact rgood8_22 t us ur w ho hs hr hv6 v k _ rfl
  · exact rgood8_23 t us ur w ho hs hr hv6 v k _ rfl
  · exact rgood8_31 t us ur w ho hs hr hv6 v k _ rfl
  · exact rgood8_32 t us ur w ho hs hr hv6 v k _ rfl
  · exact rgood8_33 t us ur w ho hs hr hv6 v k _ rfl
end Go.Proofs.Ytlkihfmojnghhaa

/-
  The contracts of the document's Talk, on and Dest.
-/
namespace Go.Proofs.Ytlkihfmojnghhaa
open Go.RowKit
set_option linter.unusedVariables false
set_option linter.unusedSimpArgs false
attribute [local go_sem ↓] ld_addr st_addr bld_addr ld_tk st_tk bld_tk
attribute [local go_sem] ldr_addr str_addr ldr_tk str_tk row?_drewN_eq row?_drew_eq


set_option maxRecDepth 100000 in
set_option maxHeartbeats 4000000 in
theorem rtalk_all (t : TK) (us ur : Value) (w : World) (ho : t.ok) (hs : Ads w us t.src) (hr : Rcs w ur t.rcs) : Calls Try.prog 24 #[.agg (tkC t us ur).toArray] w fun x w' => x = .returned (.bool (gdT t)) ∧ Below w.heap.size w w' := by
  have H0 := Lib.hid (TkAt.made w t us ur ho.1)
  have HB := Lib.hid (bbox w (.cells (tkC t us ur).toArray 35))
  have H8 := Lib.hid (fun W (h : Below w.heap.size w W) => rgood8_all t us ur W ho (hs.below h) (hr.below h))
  have H9 := Lib.hid (fun W (h : Below w.heap.size w W) => rgood9_all t us ur W ho (hs.below h) (hr.below h))
  obtain ⟨R, hR⟩ : ∃ R, R = gdT t := ⟨_, rfl⟩
  rw [← hR]
  rw [← talkR_eq, talkR] at hR
  have HR := Lib.hid hR; clear hR ho hs hr
  go_enter Try.func24, Try.ntmps24
  go_upto_region 1 with (fail)
  generalize w.alloc (.cells (tkC t us ur).toArray 35) = W at H0 HB ⊢
  have c0 := H0.out.v6
  have r0 := H0.out.row
  cases hv : t.v6 with
  | true =>
    rw [hv] at c0 HR
    have HVV := Lib.hid hv
    cases h9 : good9 t
    all_goals (
      rw [h9] at H9 HR
      clear hv h9
      go_wp2_with (go_at_call 44; (with_reducible refine (H9.out _ HB.out).mono ?_); rintro x wn ⟨rfl, hb⟩; replace H0 := Lib.hid (H0.out.below hb); replace HB := Lib.hid (bstep HB.out hb); clear hb c0 r0; have c0 := H0.out.v6; rw [HVV.out] at c0)
      go_ret
      exact ⟨ret_boolF (by rw [HR.out]; simp), HB.out⟩)
  | false =>
    rw [hv] at c0 HR
    clear hv
    go_wp2_with (go_at_call 45; (with_reducible refine (H8.out _ HB.out).mono ?_); rintro x wn ⟨rfl, hb⟩; replace HB := Lib.hid (bstep HB.out hb); clear hb)
    go_ret
    exact ⟨ret_boolF (by rw [HR.out]; simp), HB.out⟩
end Go.Proofs.Ytlkihfmojnghhaa

/-
  Parameters of queriers in memory.
-/
namespace Go.Proofs.Ytlkihfmojnghhaa
open Go.RowKit
set_option linter.unusedVariables false
set_option linter.unusedSimpArgs false

def tnC (t : TN) : List Value := [.int .i64 t.rob, .int .i64 t.every, .int .i64 t.resp, .int .i64 t.last, .int .i64 t.cnt]
theorem tn_c {W : World} {b : Nat} {t : TN} (h : ObjAt W b (tnC t).toArray 23) : W.cell? ⟨b, 0, none⟩ = some (.int .i64 t.rob) ∧ W.cell? ⟨b, 1, none⟩ = some (.int .i64 t.every) ∧ W.cell? ⟨b, 2, none⟩ = some (.int .i64 t.resp) ∧ W.cell? ⟨b, 3, none⟩ = some (.int .i64 t.last) ∧ W.cell? ⟨b, 4, none⟩ = some (.int .i64 t.cnt) := by
  refine ⟨?_, ?_, ?_, ?_, ?_⟩ <;> (rw [ObjAt.cell h]; rfl)
theorem tn_row {W : World} {b : Nat} {t : TN} (h : ObjAt W b (tnC t).toArray 23) : row? W b 0 5 = some (tnC t) := obj_re h (A := []) (M := tnC t) (C := []) (by simp) rfl rfl
theorem tn_one (t : TN) : ∀ v ∈ tnC t, v.oneCell' = true := by
  intro v hv
  simp only [tnC, List.mem_cons, List.not_mem_nil, or_false] at hv
  rcases hv with rfl | rfl | rfl | rfl | rfl <;> rfl
theorem fok_tn (t : TN) : fok (tnC t).toArray 5 = true := by
  have h : (tnC t).toArray.all (·.oneCell') = true := all_oneCell_toArray (tn_one t)
  simp only [fok, h, Bool.and_true]
  simp [tnC]
theorem ld_tn (a : Addr) : loadVar 23 a = aggLd 23 a := rfl
theorem st_tn (a : Addr) (v : Value) : storeVar 23 a v = aggSt 23 a v := rfl
theorem bld_tn (p : Array (Nat × Value)) : Instr.build 23 p = aggBuild 23 p := rfl
theorem ldr_tn (b o : Nat) (w : World) : (aggLd 23 ⟨b, o, none⟩).run Try.prog w = match row? w b o 5 with | some cs => .ok (.agg cs.toArray) w | none => aggLdSlow 23 b o w :=
  ld_run Try.underlying23 rfl (by kernel_rfl) b o w
theorem str_tn (b : Nat) (cs : Array Value) (w : World) : (aggSt 23 ⟨b, 0, none⟩ (.agg cs)).run Try.prog w = match free? w b 0 5 && fok cs 5 with | true => .ok () (aggW w b cs.toList) | false => aggStSlow 23 b 0 (.agg cs) w :=
  st_run (by kernel_rfl) b cs w
def tuneS := pairS 1 (intS .i64) (pairS 1 (intS .i64) (pairS 1 (intS .i64) (pairS 1 (intS .i64) (pairS 1 (intS .i64) unitS))))
theorem opens_tuneS : Opens Try.prog 23 tuneS :=
  opens_struct Try.underlying23 (opens_cons rfl (by kernel_rfl) (of_decide_eq_true (by kernel_rfl)) (opens_int Try.underlying3)
    (opens_cons rfl (by kernel_rfl) (of_decide_eq_true (by kernel_rfl)) (opens_int Try.underlying3)
    (opens_cons rfl (by kernel_rfl) (of_decide_eq_true (by kernel_rfl)) (opens_int Try.underlying3)
    (opens_cons rfl (by kernel_rfl) (of_decide_eq_true (by kernel_rfl)) (opens_int Try.underlying3)
    (opens_cons rfl (by kernel_rfl) (of_decide_eq_true (by kernel_rfl)) (opens_int Try.underlying3)
    (opens_nil (by kernel_rfl)))))))
theorem tuneS_cells {w : World} {cs : List Value} {x : _} (h : tuneS w cs x) : ∃ t : TN, cs = tnC t := by
  obtain ⟨c0, d0, rfl, _, h0, c1, d1, rfl, _, h1, c2, d2, rfl, _, h2, c3, d3, rfl, _, h3, c4, d4, rfl, _, h4, ha⟩ := h
  obtain ⟨e0, _⟩ := h0
  obtain ⟨e1, _⟩ := h1
  obtain ⟨e2, _⟩ := h2
  obtain ⟨e3, _⟩ := h3
  obtain ⟨e4, _⟩ := h4
  have ea : d4 = [] := ha
  subst e0 e1 e2 e3 e4 ea
  exact ⟨⟨_, _, _, _, _⟩, rfl⟩
theorem eqF_ints (d : Nat) (X Y : Array Value) (ti : TypeId) (hti : Try.prog.underlying ti = some (.int .i64)) (hp : Try.prog.plainKey ti = true) (w : World) : ∀ (fs : List Field) (la lb : List Int), (∀ f ∈ fs, f.name ≠ "_" ∧ f.type = ti) → fs.map (fun f => X[f.offset]?) = la.map (fun n => some (.int .i64 n)) → fs.map (fun f => Y[f.offset]?) = lb.map (fun n => some (.int .i64 n)) → (Op.eqFields (d + 1) X Y fs).run Try.prog w = .ok (decide (la = lb)) w
  | [], la, lb, _, hx, hy => by
    obtain rfl : la = [] := by simpa using hx.symm
    obtain rfl : lb = [] := by simpa using hy.symm
    simp [Op.eqFields]
  | f :: fs, [], lb, _, hx, _ => by simp at hx
  | f :: fs, a :: la, [], _, _, hy => by simp at hy
  | f :: fs, a :: la, b :: lb, hf, hx, hy => by
    simp only [List.map_cons, List.cons.injEq] at hx hy
    obtain ⟨n1, n2⟩ := hf f (by simp)
    have p1 : (part ti X f.offset).run Try.prog w = .ok (.int .i64 a) w := run_part_plain w hp hx.1
    have p2 : (part ti Y f.offset).run Try.prog w = .ok (.int .i64 b) w := run_part_plain w hp hy.1
    have p3 : (Op.equalIn (d + 1) ti (.int .i64 a) (.int .i64 b)).run Try.prog w = .ok (decide (a = b)) w := by
      rw [run_equalIn_int w d ti .i64 .i64 _ _ hti]; congr 1
    have ih := eqF_ints d X Y ti hti hp w fs la lb (fun g hg => hf g (by simp [hg])) hx.2 hy.2
    simp only [Op.eqFields, n1, n2, ne_eq, not_false_eq_true, if_true, Sem.run_bind, p1, p2, p3, Result.andThen_ok]
    by_cases h : a = b
    · subst h
      simpa using ih
    · simp [h]
/-- Two structs of ints alone. -/
theorem eq_ints (T : TypeId) (d : Nat) (X Y : Array Value) (ti : TypeId) (hti : Try.prog.underlying ti = some (.int .i64)) (hp : Try.prog.plainKey ti = true) (la lb : List Int) (L : List (String × TypeId × Nat)) (hu : Try.prog.underlying T = some (.struct (Try.prog.fieldsOf T)))
    (hz : (Try.prog.fieldsOf T).toList.map (fun f => (f.name, f.type, f.offset)) = L) (hL : ∀ x ∈ L, x.1 ≠ "_" ∧ x.2.1 = ti) (hx : L.map (fun x => X[x.2.2]?) = la.map (fun n => some (.int .i64 n))) (hy : L.map (fun x => Y[x.2.2]?) = lb.map (fun n => some (.int .i64 n))) (w : World)
    (he : (Op.equalIn (d + 1 + 1) T (.agg X) (.agg Y)).run Try.prog w = (Op.eqFields (d + 1) X Y (Try.prog.fieldsOf T).toList).run Try.prog w) : (Op.equalIn (d + 1 + 1) T (.agg X) (.agg Y)).run Try.prog w = .ok (decide (la = lb)) w := by
  rw [he]
  refine eqF_ints d X Y ti hti hp w _ la lb (fun f hf => ?_) ?_ ?_
  · have := hL (f.name, f.type, f.offset) (by rw [← hz]; exact List.mem_map.2 ⟨f, hf, rfl⟩)
    exact this
  · rw [← hx, ← hz, List.map_map]; rfl
  · rw [← hy, ← hz, List.map_map]; rfl
def tnL (t : TN) : List Int := [t.rob, t.every, t.resp, t.last, t.cnt]
theorem tnL_inj {a b : TN} : tnL a = tnL b ↔ a = b := by
  obtain ⟨a0, a1, a2, a3, a4⟩ := a
  obtain ⟨b0, b1, b2, b3, b4⟩ := b
  simp [tnL]
theorem eq_tn_d (d : Nat) (a b : TN) (w : World) : (Op.equalIn (d + 1 + 1) 23 (.agg (tnC a).toArray) (.agg (tnC b).toArray)).run Try.prog w = .ok (decide (a = b)) w := by
  have hf : Try.prog.underlying 23 = some (.struct (Try.prog.fieldsOf 23)) := by
    have h := Try.underlying23
    rw [Program.fieldsOf, h]
  have h := eq_ints 23 d (tnC a).toArray (tnC b).toArray 3 Try.underlying3 (by kernel_rfl) (tnL a) (tnL b) [("Robust", 3, 0), ("Every", 3, 1), ("Resp", 3, 2), ("Last", 3, 3), ("Count", 3, 4)] hf (by kernel_rfl) (by simp) rfl rfl w (run_equalIn_struct w (d + 1) _ _ _ hf (by kernel_rfl))
  rw [h]
  congr 1
  rw [Bool.eq_iff_iff, decide_eq_true_iff, decide_eq_true_iff, tnL_inj]
theorem eq_tn (a b : TN) (w : World) : (Op.equalIn 10000 23 (.agg (tnC a).toArray) (.agg (tnC b).toArray)).run Try.prog w = .ok (decide (a = b)) w := eq_tn_d 9998 a b w
end Go.Proofs.Ytlkihfmojnghhaa

