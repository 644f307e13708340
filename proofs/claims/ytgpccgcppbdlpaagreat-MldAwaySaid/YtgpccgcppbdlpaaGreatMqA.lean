/-
  The document's own reader of all but reports of records, of layer 9.
-/
import Derived.Test.YtgpccgcppbdlpaaGreatMg11
import Derived.Test.YtgpccgcppbdlpaaGreatMdR
import Derived.Test.YtgpccgcppbdlpaaGreatMg22
namespace Go.Proofs.YtgpccgcppbdlpaaGreat
open Go.RowKit
set_option linter.unusedVariables false
set_option linter.unusedSimpArgs false
attribute [local go_sem ↓] ld_addr st_addr bld_addr ld_tk st_tk bld_tk
attribute [local go_sem] ldr_addr str_addr str_addr_at ldr_tk str_tk

theorem grp9_zer {a : AD} (h : grp9 a = true) : zer9 a = false := by
  unfold grp9 grpV at h
  unfold zer9 z16
  rw [Bool.and_eq_true] at h
  obtain ⟨h1, h2⟩ := h
  rw [h1]
  cases hz : decide (a.2 = List.replicate 16 (0 : UInt8)) with
  | false => rfl
  | true =>
    rw [decide_eq_true_eq] at hz
    rw [h1, hz] at h2
    exact absurd h2 (by decide)
theorem tkC_grp9 (e : TK) (se re : Value) (ho : adOk e.g) (a : AD) (ha : adOk a) : over (tkC e se re) 4 (adC a) = tkC ⟨e.v6, e.ver, e.kind, e.resp, a, e.quiet, e.rob, e.every, e.src, e.rcs⟩ se re := by
  unfold over tkC
  have l1 := adC_length ho
  have l2 := adC_length ha
  rw [l2]
  simp only [List.cons_append, List.nil_append, List.take_succ_cons, List.take_zero, List.drop_succ_cons]
  rw [List.drop_append_of_le_length (by omega), List.drop_of_length_le (by omega)]
  simp
theorem bldr_tk6 (kind : Int) (w : World) : (aggBuild 28 #[(0, .bool true), (1, .int .i64 1), (2, .int .i64 kind)]).run Tryz.prog w = .ok (.agg (tkC ⟨true, 1, kind, 0, zeroA, false, 0, 0, [], []⟩ (.slice none 0 0) (.slice none 0 0)).toArray) w := bld_run _ _ _ (by kernel_rfl) _
/-- The result's cell and a talk that is being filled. -/
structure QO (w W : World) (m : Nat) (t : TK) (us ur : Value) : Prop where
  res : ObjAt W w.heap.size #[.bool false, .int .i64 0, .int .i64 0, .int .i64 0, .bool false, .int .u8 0, .int .u8 0, .int .u8 0, .int .u8 0, .int .u8 0, .int .u8 0, .int .u8 0, .int .u8 0, .int .u8 0, .int .u8 0, .int .u8 0, .int .u8 0, .int .u8 0, .int .u8 0, .int .u8 0, .int .u8 0, .bool false, .int .i64 0, .int .i64 0, .slice none 0 0, .slice none 0 0] 28
  tk : TkAt W m t us ur
  blw : Below w.heap.size w W
  lt : w.heap.size < m
  src : AdsT W us t.src
  rcs : RcT W ur t.rcs
theorem QO.below {w W W' : World} {m : Nat} {t : TK} {us ur : Value} (h : QO w W m t us ur) (hb : Below W.heap.size W W') : QO w W' m t us ur :=
  ⟨h.res.below hb h.res.lt, h.tk.below hb, bstep h.blw hb, h.lt, h.src.below hb, h.rcs.below hb⟩
theorem QO.done {w W : World} {m : Nat} {t : TK} {us ur : Value} (h : QO w W m t us ur) :
    row? (aggW W w.heap.size (tkC t us ur)) w.heap.size 0 26 = some (tkC t us ur) ∧ Below w.heap.size w (aggW W w.heap.size (tkC t us ur)) ∧ AdsT (aggW W w.heap.size (tkC t us ur)) us t.src ∧ RcT (aggW W w.heap.size (tkC t us ur)) ur t.rcs :=
  ⟨aggW_row (obj_free h.res (by simp)) (tkC_length h.tk.2 _ _), aggW_below h.blw (Nat.le_refl _) _, h.src.grown h.res (aggW_grown _ _ _), h.rcs.grown h.res (aggW_grown _ _ _)⟩
theorem QO.set {w W : World} {m : Nat} {t t' : TK} {us ur us' ur' : Value} (h : QO w W m t us ur) (j : Nat) (v : Value) (e : (tkC t us ur).set j v = tkC t' us' ur') (ho : adOk t'.g) (hs : AdsT W us' t'.src) (hr : RcT W ur' t'.rcs) :
    QO w (W.setCell ⟨m, j, none⟩ v) m t' us' ur' := by
  have hlt := h.lt
  have h1 : ObjAt (W.setCell ⟨m, j, none⟩ v) m (tkC t' us' ur').toArray 28 := by
    have := ObjAt.set h.tk.1 j v
    rw [List.setIfInBounds_toArray, e] at this
    exact this
  exact ⟨h.res.other _ _ (by simp; omega), ⟨h1, ho⟩, h.blw.setCell (p := ⟨m, j, none⟩) (by simp; omega) v, h.lt, hs.grown h.tk.1 (gset W m j v), hr.grown h.tk.1 (gset W m j v)⟩
theorem QO.grp {w W : World} {m : Nat} {t : TK} {us ur : Value} (h : QO w W m t us ur) (a : AD) (ha : adOk a) : QO w (aggO W m 4 (adC a)) m ⟨t.v6, t.ver, t.kind, t.resp, a, t.quiet, t.rob, t.every, t.src, t.rcs⟩ us ur := by
  have hlt := h.lt
  have l1 := tkC_length h.tk.2 us ur
  have h1 := aggO_obj (o := 4) (cs := adC a) h.tk.1 (by rw [l1, adC_length ha]; omega) (addrC_one _ _)
  rw [tkC_grp9 t us ur h.tk.2 a ha] at h1
  have hg : W.grownBy (aggO W m 4 (adC a)) (some m) := by rw [aggO_eq]; exact setCells_grown m _ 4 W
  exact ⟨aggO_other h.res _ (by omega), ⟨h1, ha⟩, aggO_below h.blw (by omega) _ _, h.lt, h.src.grown h.tk.1 hg, h.rcs.grown h.tk.1 hg⟩
/-- What is read of it. -/
def QOC (w W : World) (m : Nat) (t : TK) (us ur : Value) : Prop :=
  W.cell? ⟨m, 1, none⟩ = some (.int .i64 t.ver) ∧ W.cell? ⟨m, 2, none⟩ = some (.int .i64 t.kind) ∧ W.cell? ⟨m, 3, none⟩ = some (.int .i64 t.resp) ∧ row? W m 4 17 = some (adC t.g) ∧ row? W m 0 26 = some (tkC t us ur) ∧ free? W w.heap.size 0 26 = true ∧ free? W m 4 17 = true ∧
  W.cell? ⟨m, 21, none⟩ = some (.bool t.quiet) ∧ W.cell? ⟨m, 22, none⟩ = some (.int .i64 t.rob) ∧ W.cell? ⟨m, 23, none⟩ = some (.int .i64 t.every) ∧ W.cell? ⟨m, 24, none⟩ = some us ∧ W.cell? ⟨m, 25, none⟩ = some ur ∧ (∀ j, W.frozen? ⟨m, j, none⟩ = false) ∧ free? W m 0 26 = true ∧ fok (tkC t us ur).toArray 26 = true
theorem QO.c {w W : World} {m : Nat} {t : TK} {us ur : Value} (h : QO w W m t us ur) : QOC w W m t us ur :=
  ⟨h.tk.ver, h.tk.kind, h.tk.resp, h.tk.rg, h.tk.row, obj_free h.res (by simp), free_of fun j hj => by
    refine ⟨?_, ObjAt.free h.tk.1 (4 + j)⟩
    rw [ObjAt.cell h.tk.1 (4 + j), Array.getElem?_eq_getElem (by simp [tkC_length h.tk.2]; omega)]; rfl, h.tk.quiet, h.tk.rob, h.tk.every, h.tk.us, h.tk.ur, fun j => ObjAt.free h.tk.1 j, obj_free h.tk.1 (by simp [tkC_length h.tk.2]), fok_tk h.tk.2 h.src.1.one h.rcs.rcs.one⟩
/-- What one tells. -/
def OneP (w : World) (s : List UInt8) (x : Ending) (w' : World) : Prop := ∃ t us ur, x = .returned (.tuple #[.agg (tkC t us ur).toArray, .int .i64 (one9 s).2]) ∧ Below w.heap.size w w' ∧ adOk t.g ∧ us.oneCell' = true ∧ ur.oneCell' = true ∧ ((one9 s).2 = 0 → t = (one9 s).1 ∧ AdsT w' us t.src ∧ RcT w' ur t.rcs)
theorem QO.ret {w W : World} {m : Nat} {t : TK} {us ur : Value} (h : QO w W m t us ur) {s : List UInt8} {e : Int} (he : (one9 s).2 = e) (ht : e = 0 → (one9 s).1 = t) :
    row? (aggW W w.heap.size (tkC t us ur)) w.heap.size 0 26 = some (tkC t us ur) ∧ OneP w s (.returned (.tuple #[.agg (tkC t us ur).toArray, .int .i64 e])) (aggW W w.heap.size (tkC t us ur)) := by
  obtain ⟨q1, q2, q3, q4⟩ := h.done
  exact ⟨q1, t, us, ur, by rw [he], q2, h.tk.2, h.src.1.one, h.rcs.rcs.one, fun h0 => ⟨(ht (he ▸ h0)).symm, q3, q4⟩⟩
theorem QO.start (w : World) (K : Int) : QO w (aggW ((w.alloc (.cells #[.bool false, .int .i64 0, .int .i64 0, .int .i64 0, .bool false, .int .u8 0, .int .u8 0, .int .u8 0, .int .u8 0, .int .u8 0, .int .u8 0, .int .u8 0, .int .u8 0, .int .u8 0, .int .u8 0, .int .u8 0, .int .u8 0, .int .u8 0, .int .u8 0, .int .u8 0, .int .u8 0, .bool false, .int .i64 0, .int .i64 0, .slice none 0 0, .slice none 0 0] 28)).alloc (.cells #[.bool false, .int .i64 0, .int .i64 0, .int .i64 0, .bool false, .int .u8 0, .int .u8 0, .int .u8 0, .int .u8 0, .int .u8 0, .int .u8 0, .int .u8 0, .int .u8 0, .int .u8 0, .int .u8 0, .int .u8 0, .int .u8 0, .int .u8 0, .int .u8 0, .int .u8 0, .int .u8 0, .bool false, .int .i64 0, .int .i64 0, .slice none 0 0, .slice none 0 0] 28)) (w.heap.size + 1) (tkC ⟨true, 1, K, 0, zeroA, false, 0, 0, [], []⟩ (.slice none 0 0) (.slice none 0 0))) (w.heap.size + 1) ⟨true, 1, K, 0, zeroA, false, 0, 0, [], []⟩ (.slice none 0 0) (.slice none 0 0) := by
  have s1 : (w.alloc (.cells #[.bool false, .int .i64 0, .int .i64 0, .int .i64 0, .bool false, .int .u8 0, .int .u8 0, .int .u8 0, .int .u8 0, .int .u8 0, .int .u8 0, .int .u8 0, .int .u8 0, .int .u8 0, .int .u8 0, .int .u8 0, .int .u8 0, .int .u8 0, .int .u8 0, .int .u8 0, .int .u8 0, .bool false, .int .i64 0, .int .i64 0, .slice none 0 0, .slice none 0 0] 28)).heap.size = w.heap.size + 1 := by simp
  have h1 := ObjAt.made (w.alloc (.cells #[.bool false, .int .i64 0, .int .i64 0, .int .i64 0, .bool false, .int .u8 0, .int .u8 0, .int .u8 0, .int .u8 0, .int .u8 0, .int .u8 0, .int .u8 0, .int .u8 0, .int .u8 0, .int .u8 0, .int .u8 0, .int .u8 0, .int .u8 0, .int .u8 0, .int .u8 0, .int .u8 0, .bool false, .int .i64 0, .int .i64 0, .slice none 0 0, .slice none 0 0] 28)) #[.bool false, .int .i64 0, .int .i64 0, .int .i64 0, .bool false, .int .u8 0, .int .u8 0, .int .u8 0, .int .u8 0, .int .u8 0, .int .u8 0, .int .u8 0, .int .u8 0, .int .u8 0, .int .u8 0, .int .u8 0, .int .u8 0, .int .u8 0, .int .u8 0, .int .u8 0, .int .u8 0, .bool false, .int .i64 0, .int .i64 0, .slice none 0 0, .slice none 0 0] 28
  rw [s1] at h1
  exact ⟨aggW_other (ObjAt.alloc (ObjAt.made w _ _) _) _ (by omega), ⟨aggW_obj (L := (#[.bool false, .int .i64 0, .int .i64 0, .int .i64 0, .bool false, .int .u8 0, .int .u8 0, .int .u8 0, .int .u8 0, .int .u8 0, .int .u8 0, .int .u8 0, .int .u8 0, .int .u8 0, .int .u8 0, .int .u8 0, .int .u8 0, .int .u8 0, .int .u8 0, .int .u8 0, .int .u8 0, .bool false, .int .i64 0, .int .i64 0, .slice none 0 0, .slice none 0 0] : Array Value).toList) (by simpa using h1) rfl (tkC_one rfl rfl), zeroA_ok⟩, aggW_below (((Below.refl _ _).alloc (Nat.le_refl _) _).alloc (by simp) _) (by omega) _, by omega, AdsT.nil _, RcT.nil _⟩
theorem QO.free0 (w : World) : free? ((w.alloc (.cells #[.bool false, .int .i64 0, .int .i64 0, .int .i64 0, .bool false, .int .u8 0, .int .u8 0, .int .u8 0, .int .u8 0, .int .u8 0, .int .u8 0, .int .u8 0, .int .u8 0, .int .u8 0, .int .u8 0, .int .u8 0, .int .u8 0, .int .u8 0, .int .u8 0, .int .u8 0, .int .u8 0, .bool false, .int .i64 0, .int .i64 0, .slice none 0 0, .slice none 0 0] 28)).alloc (.cells #[.bool false, .int .i64 0, .int .i64 0, .int .i64 0, .bool false, .int .u8 0, .int .u8 0, .int .u8 0, .int .u8 0, .int .u8 0, .int .u8 0, .int .u8 0, .int .u8 0, .int .u8 0, .int .u8 0, .int .u8 0, .int .u8 0, .int .u8 0, .int .u8 0, .int .u8 0, .int .u8 0, .bool false, .int .i64 0, .int .i64 0, .slice none 0 0, .slice none 0 0] 28)) (w.heap.size + 1) 0 26 = true := by
  have hfm := free_made (w.alloc (.cells #[.bool false, .int .i64 0, .int .i64 0, .int .i64 0, .bool false, .int .u8 0, .int .u8 0, .int .u8 0, .int .u8 0, .int .u8 0, .int .u8 0, .int .u8 0, .int .u8 0, .int .u8 0, .int .u8 0, .int .u8 0, .int .u8 0, .int .u8 0, .int .u8 0, .int .u8 0, .int .u8 0, .bool false, .int .i64 0, .int .i64 0, .slice none 0 0, .slice none 0 0] 28)) #[.bool false, .int .i64 0, .int .i64 0, .int .i64 0, .bool false, .int .u8 0, .int .u8 0, .int .u8 0, .int .u8 0, .int .u8 0, .int .u8 0, .int .u8 0, .int .u8 0, .int .u8 0, .int .u8 0, .int .u8 0, .int .u8 0, .int .u8 0, .int .u8 0, .int .u8 0, .int .u8 0, .bool false, .int .i64 0, .int .i64 0, .slice none 0 0, .slice none 0 0] 28 26 (by simp)
  rw [show (w.alloc (.cells #[.bool false, .int .i64 0, .int .i64 0, .int .i64 0, .bool false, .int .u8 0, .int .u8 0, .int .u8 0, .int .u8 0, .int .u8 0, .int .u8 0, .int .u8 0, .int .u8 0, .int .u8 0, .int .u8 0, .int .u8 0, .int .u8 0, .int .u8 0, .int .u8 0, .int .u8 0, .int .u8 0, .bool false, .int .i64 0, .int .i64 0, .slice none 0 0, .slice none 0 0] 28)).heap.size = w.heap.size + 1 by simp] at hfm
  exact hfm
theorem snd_ite9 (E : Int) (a b : TK) : (if E ≠ 0 then (a, E) else (b, (0 : Int))).2 = E := by
  by_cases h : E = 0
  · rw [if_neg (by rw [h]; simp), h]
  · rw [if_pos h]

set_option maxRecDepth 100000 in
set_option maxHeartbeats 4000000 in
theorem rone_short (s : List UInt8) (hs : s.length ≤ 100000) (h0 : 130 ≤ by8 s 0 ∧ by8 s 0 ≤ 132) (h8 : 0 < s.length) (hl : s.length < 24) (w : World) :
    Calls Tryz.prog 55 #[.string (Str s)] w fun x w' => OneP w s x w' := by
  have HQ := Lib.hid (show one9 s = (zeroT, 3) by unfold one9; rw [if_pos hl])
  have hd : (s.length : Int) < 24 := by omega
  clear hl
  have hsz := Str_size s
  have i0 : (0 : Int) < (s.length : Int) := by omega
  have hn0 : 0 < s.length := by omega
  have e0 := Str_at s 0 (by rw [Str_size]; exact hn0)
  have v0 : IntKind.i64.wrap (by8 s 0 : Int) = (by8 s 0 : Int) := by simp only [IntKind.wrap_i64]; omega
  obtain ⟨K, hK⟩ : ∃ K : Int, K = (by8 s 0 : Int) - 129 := ⟨_, rfl⟩
  have vK : IntKind.i64.wrap ((by8 s 0 : Int) - 129) = K := by simp only [IntKind.wrap_i64]; omega
  have HKK := Lib.hid hK
  have HB0 := Lib.hid h0
  clear hK h0
  generalize by8 s 0 = b0 at *
  have hbk := bldr_tk6 K
  have hff : fok (tkC ⟨true, 1, K, 0, zeroA, false, 0, 0, [], []⟩ (.slice none 0 0) (.slice none 0 0)).toArray 26 = true := fok_tk zeroA_ok rfl rfl
  have hfm := QO.free0 w
  have H0 := Lib.hid (QO.start w K)
  go_enter Tryz.func55, Tryz.ntmps55
  go_upto_region 2 with (fail)
  generalize aggW ((w.alloc (.cells #[.bool false, .int .i64 0, .int .i64 0, .int .i64 0, .bool false, .int .u8 0, .int .u8 0, .int .u8 0, .int .u8 0, .int .u8 0, .int .u8 0, .int .u8 0, .int .u8 0, .int .u8 0, .int .u8 0, .int .u8 0, .int .u8 0, .int .u8 0, .int .u8 0, .int .u8 0, .int .u8 0, .bool false, .int .i64 0, .int .i64 0, .slice none 0 0, .slice none 0 0] 28)).alloc (.cells #[.bool false, .int .i64 0, .int .i64 0, .int .i64 0, .bool false, .int .u8 0, .int .u8 0, .int .u8 0, .int .u8 0, .int .u8 0, .int .u8 0, .int .u8 0, .int .u8 0, .int .u8 0, .int .u8 0, .int .u8 0, .int .u8 0, .int .u8 0, .int .u8 0, .int .u8 0, .int .u8 0, .bool false, .int .i64 0, .int .i64 0, .slice none 0 0, .slice none 0 0] 28)) (w.heap.size + 1) _ = W at H0 ⊢
  generalize w.heap.size + 1 = m at H0 ⊢
  clear hbk hff hfm
  obtain ⟨k1, k2, k3, k4, k5, k6, k7, k8, k9, ka, kb, kc, kf, kg, kh⟩ := H0.out.c
  go_upto_region 3 with (fail)
  repeat (first | go_values | go_skip | go_guarded | go_step | go_upon | go_in)
  obtain ⟨qr1, qr2⟩ := H0.out.ret (s := s) (e := 3) (by rw [HQ.out]) (fun h => absurd h (by omega))
  exact bodyPost_ret (results_cell2 Tryz.results55 rfl (ld_some qr1 (ldr_tk _ _ _))) rfl qr2

set_option maxRecDepth 100000 in
set_option maxHeartbeats 4000000 in
theorem rone_mid (s : List UInt8) (hs : s.length ≤ 100000) (h0 : 130 ≤ by8 s 0 ∧ by8 s 0 ≤ 132) (hk : by8 s 0 = 130) (hl : 24 < s.length) (hm : s.length < 28) (w : World) :
    Calls Tryz.prog 55 #[.string (Str s)] w fun x w' => OneP w s x w' := by
  have HQ := Lib.hid (show one9 s = (zeroT, 2) by unfold one9; rw [if_neg (by omega), if_pos ⟨hk, hl, hm⟩])
  have d1 : (24 : Int) < (s.length : Int) := by omega
  have d2 : (s.length : Int) < 28 := by omega
  have hd : ¬ (s.length : Int) < 24 := by omega
  have hsz := Str_size s
  have i0 : (0 : Int) < (s.length : Int) := by omega
  have hn0 : 0 < s.length := by omega
  have e0 := Str_at s 0 (by rw [Str_size]; exact hn0)
  have v0 : IntKind.i64.wrap (by8 s 0 : Int) = (by8 s 0 : Int) := by simp only [IntKind.wrap_i64]; omega
  obtain ⟨K, hK⟩ : ∃ K : Int, K = (by8 s 0 : Int) - 129 := ⟨_, rfl⟩
  have vK : IntKind.i64.wrap ((by8 s 0 : Int) - 129) = K := by simp only [IntKind.wrap_i64]; omega
  have kk : (K == 1) = true := by rw [beq_iff_eq]; omega
  have HKK := Lib.hid hK
  have HB0 := Lib.hid h0
  clear hK h0
  generalize by8 s 0 = b0 at *
  have hbk := bldr_tk6 K
  have hff : fok (tkC ⟨true, 1, K, 0, zeroA, false, 0, 0, [], []⟩ (.slice none 0 0) (.slice none 0 0)).toArray 26 = true := fok_tk zeroA_ok rfl rfl
  have hfm := QO.free0 w
  have H0 := Lib.hid (QO.start w K)
  clear hk hl hm
  go_enter Tryz.func55, Tryz.ntmps55
  go_upto_region 2 with (fail)
  generalize aggW ((w.alloc (.cells #[.bool false, .int .i64 0, .int .i64 0, .int .i64 0, .bool false, .int .u8 0, .int .u8 0, .int .u8 0, .int .u8 0, .int .u8 0, .int .u8 0, .int .u8 0, .int .u8 0, .int .u8 0, .int .u8 0, .int .u8 0, .int .u8 0, .int .u8 0, .int .u8 0, .int .u8 0, .int .u8 0, .bool false, .int .i64 0, .int .i64 0, .slice none 0 0, .slice none 0 0] 28)).alloc (.cells #[.bool false, .int .i64 0, .int .i64 0, .int .i64 0, .bool false, .int .u8 0, .int .u8 0, .int .u8 0, .int .u8 0, .int .u8 0, .int .u8 0, .int .u8 0, .int .u8 0, .int .u8 0, .int .u8 0, .int .u8 0, .int .u8 0, .int .u8 0, .int .u8 0, .int .u8 0, .int .u8 0, .bool false, .int .i64 0, .int .i64 0, .slice none 0 0, .slice none 0 0] 28)) (w.heap.size + 1) _ = W at H0 ⊢
  generalize w.heap.size + 1 = m at H0 ⊢
  clear hbk hff hfm
  obtain ⟨k1, k2, k3, k4, k5, k6, k7, k8, k9, ka, kb, kc, kf, kg, kh⟩ := H0.out.c
  try simp only at k1 k2 k3 k4 k5 k8 k9 ka kb kc kh
  go_upto_region 5 with (fail)
  repeat (first | go_values | go_skip | go_guarded | go_step | go_upon | go_in)
  obtain ⟨qr1, qr2⟩ := H0.out.ret (s := s) (e := 2) (by rw [HQ.out]) (fun h => absurd h (by omega))
  exact bodyPost_ret (results_cell2 Tryz.results55 rfl (ld_some qr1 (ldr_tk _ _ _))) rfl qr2

set_option maxRecDepth 100000 in
set_option maxHeartbeats 4000000 in
theorem rone_rep (s : List UInt8) (hs : s.length ≤ 100000) (h0 : 130 ≤ by8 s 0 ∧ by8 s 0 ≤ 132) (hk : by8 s 0 ≠ 130) (hl : 24 ≤ s.length) (w : World) :
    Calls Tryz.prog 55 #[.string (Str s)] w fun x w' => OneP w s x w' := by
  have hQ : one9 s = if grp9 (sixL s 8) = false then (zeroT, 2) else (⟨true, 1, (by8 s 0 : Int) - 129, 0, sixL s 8, false, 0, 0, [], []⟩, 0) := by
    unfold one9
    rw [if_neg (by omega), if_neg (by omega)]
    by_cases hg : grp9 (sixL s 8) = false
    · rw [if_pos ⟨hg, Or.inl hk⟩, if_pos hg]
    · rw [if_neg (fun h => hg h.1), if_neg hg, if_pos hk]
  have HQ := Lib.hid hQ
  clear hQ
  have hd : ¬ (s.length : Int) < 24 := by omega
  have hsz := Str_size s
  have i0 : (0 : Int) < (s.length : Int) := by omega
  have hn0 : 0 < s.length := by omega
  have e0 := Str_at s 0 (by rw [Str_size]; exact hn0)
  have v0 : IntKind.i64.wrap (by8 s 0 : Int) = (by8 s 0 : Int) := by simp only [IntKind.wrap_i64]; omega
  obtain ⟨K, hK⟩ : ∃ K : Int, K = (by8 s 0 : Int) - 129 := ⟨_, rfl⟩
  have vK : IntKind.i64.wrap ((by8 s 0 : Int) - 129) = K := by simp only [IntKind.wrap_i64]; omega
  have kk : (K == 1) = false := by rw [beq_eq_false_iff_ne]; omega
  have k1g : (1 : Int) < K := by omega
  have HKK := Lib.hid hK
  have HB0 := Lib.hid h0
  clear hK h0
  generalize by8 s 0 = b0 at *
  have hbk := bldr_tk6 K
  have hff : fok (tkC ⟨true, 1, K, 0, zeroA, false, 0, 0, [], []⟩ (.slice none 0 0) (.slice none 0 0)).toArray 26 = true := fok_tk zeroA_ok rfl rfl
  have hfm := QO.free0 w
  have H0 := Lib.hid (QO.start w K)
  have HF6 : Hid (∀ W, Calls Tryz.prog 90 #[.string (Str s), .int .i64 8] W fun x w' => x = .returned (.agg (adC (sixL s 8)).toArray) ∧ Below W.heap.size W w') := Lib.hid fun W => rsix_any s hs 8 (by omega) W
  have HO := Lib.hid (show adOk (sixL s 8) from sixL_ok s 8)
  have HG := Lib.hid (fun W => rgroup9_any (sixL s 8) HO.out W)
  have HZ := Lib.hid (fun W => rzero9_any (sixL s 8) HO.out W)
  have HGZ := Lib.hid (fun h : grp9 (sixL s 8) = true => grp9_zer h)
  have hfg : fok (adC (sixL s 8)).toArray 17 = true := fok_addr _ _ HO.out
  obtain ⟨G, hGe⟩ : ∃ G, G = sixL s 8 := ⟨_, rfl⟩
  rw [← hGe] at HF6 HO HG HZ HGZ hfg HQ
  have HGE := Lib.hid hGe
  clear hGe
  clear hk hl
  go_enter Tryz.func55, Tryz.ntmps55
  go_upto_region 2 with (fail)
  generalize aggW ((w.alloc (.cells #[.bool false, .int .i64 0, .int .i64 0, .int .i64 0, .bool false, .int .u8 0, .int .u8 0, .int .u8 0, .int .u8 0, .int .u8 0, .int .u8 0, .int .u8 0, .int .u8 0, .int .u8 0, .int .u8 0, .int .u8 0, .int .u8 0, .int .u8 0, .int .u8 0, .int .u8 0, .int .u8 0, .bool false, .int .i64 0, .int .i64 0, .slice none 0 0, .slice none 0 0] 28)).alloc (.cells #[.bool false, .int .i64 0, .int .i64 0, .int .i64 0, .bool false, .int .u8 0, .int .u8 0, .int .u8 0, .int .u8 0, .int .u8 0, .int .u8 0, .int .u8 0, .int .u8 0, .int .u8 0, .int .u8 0, .int .u8 0, .int .u8 0, .int .u8 0, .int .u8 0, .int .u8 0, .int .u8 0, .bool false, .int .i64 0, .int .i64 0, .slice none 0 0, .slice none 0 0] 28)) (w.heap.size + 1) _ = W at H0 ⊢
  generalize w.heap.size + 1 = m at H0 ⊢
  clear hbk hff hfm
  obtain ⟨k1, k2, k3, k4, k5, k6, k7, k8, k9, ka, kb, kc, kf, kg, kh⟩ := H0.out.c
  try simp only at k1 k2 k3 k4 k5 k8 k9 ka kb kc kh
  go_upto_region 7 with (go_at_call 90; (with_reducible refine (HF6.out _).mono ?_); rintro x w2 ⟨rfl, hb2⟩; have H1 := Lib.hid (H0.out.below hb2); clear hb2 k1 k2 k3 k4 k5 k6 k7 k8 k9 ka kb kc kf kg kh; obtain ⟨k1, k2, k3, k4, k5, k6, k7, k8, k9, ka, kb, kc, kf, kg, kh⟩ := H1.out.c; try simp only at k1 k2 k3 k4 k5 k8 k9 ka kb kc kh)
  have H2 := Lib.hid (H1.out.grp G HO.out)
  try simp only at H2
  generalize aggO w2 m 4 _ = W2 at H2 ⊢
  clear k1 k2 k3 k4 k5 k6 k7 k8 k9 ka kb kc kf kg kh
  obtain ⟨k1, k2, k3, k4, k5, k6, k7, k8, k9, ka, kb, kc, kf, kg, kh⟩ := H2.out.c
  try simp only at k1 k2 k3 k4 k5 k8 k9 ka kb kc kh
  cases hg : grp9 G with
  | false =>
    rw [hg] at HG
    have HGG := Lib.hid hg
    clear hg
    go_upto_region 8 with (go_at_call 34; (with_reducible refine (HG.out _).mono ?_); rintro x w3 ⟨rfl, hb3⟩; have H3 := Lib.hid (H2.out.below hb3); clear hb3 k1 k2 k3 k4 k5 k6 k7 k8 k9 ka kb kc kf kg kh; obtain ⟨k1, k2, k3, k4, k5, k6, k7, k8, k9, ka, kb, kc, kf, kg, kh⟩ := H3.out.c; try simp only at k1 k2 k3 k4 k5 k8 k9 ka kb kc kh)
    repeat (first | go_values | go_skip | go_guarded | go_step | go_upon | go_in)
    obtain ⟨qr1, qr2⟩ := H3.out.ret (s := s) (e := 2) (by rw [HQ.out, if_pos HGG.out]) (fun h => absurd h (by omega))
    exact bodyPost_ret (results_cell2 Tryz.results55 rfl (ld_some qr1 (ldr_tk _ _ _))) rfl qr2
  | true =>
    rw [hg] at HG
    have HGG := Lib.hid hg
    clear hg
    go_upto_region 10 with (go_at_call 34; (with_reducible refine (HG.out _).mono ?_); rintro x w3 ⟨rfl, hb3⟩; have H3 := Lib.hid (H2.out.below hb3); clear hb3 k1 k2 k3 k4 k5 k6 k7 k8 k9 ka kb kc kf kg kh; obtain ⟨k1, k2, k3, k4, k5, k6, k7, k8, k9, ka, kb, kc, kf, kg, kh⟩ := H3.out.c; try simp only at k1 k2 k3 k4 k5 k8 k9 ka kb kc kh)
    repeat (first | go_values | go_skip | go_guarded | go_step | go_upon | go_in)
    obtain ⟨qr1, qr2⟩ := H3.out.ret (s := s) (e := 0) (by rw [HQ.out, if_neg (by rw [HGG.out]; simp)]) (fun _ => by rw [HQ.out, if_neg (by rw [HGG.out]; simp), HKK.out])
    exact bodyPost_ret (results_cell2 Tryz.results55 rfl (ld_some qr1 (ldr_tk _ _ _))) rfl qr2

set_option maxRecDepth 100000 in
set_option maxHeartbeats 4000000 in
theorem rone_24 (s : List UInt8) (hs : s.length ≤ 100000) (h0 : 130 ≤ by8 s 0 ∧ by8 s 0 ≤ 132) (hk : by8 s 0 = 130) (hl : s.length = 24) (w : World) :
    Calls Tryz.prog 55 #[.string (Str s)] w fun x w' => OneP w s x w' := by
  have hQ : one9 s = if grp9 (sixL s 8) = false ∧ zer9 (sixL s 8) = false then (zeroT, 2) else (⟨true, 1, 1, wd s 4, sixL s 8, false, 0, 0, [], []⟩, 0) := by
    unfold one9
    rw [if_neg (by omega), if_neg (by omega)]
    by_cases hg : grp9 (sixL s 8) = false ∧ zer9 (sixL s 8) = false
    · rw [if_pos ⟨hg.1, Or.inr hg.2⟩, if_pos hg]
    · rw [if_neg (fun h => hg ⟨h.1, h.2.resolve_left (fun h => h hk)⟩), if_neg hg, if_neg (by omega), if_pos hl]
  have HQ := Lib.hid hQ
  clear hQ
  have d1 : ¬ (24 : Int) < (s.length : Int) := by omega
  have d3 : ((s.length : Int) == 24) = true := by rw [beq_iff_eq]; omega
  have hd : ¬ (s.length : Int) < 24 := by omega
  have hsz := Str_size s
  have i0 : (0 : Int) < (s.length : Int) := by omega
  have hn0 : 0 < s.length := by omega
  have e0 := Str_at s 0 (by rw [Str_size]; exact hn0)
  have v0 : IntKind.i64.wrap (by8 s 0 : Int) = (by8 s 0 : Int) := by simp only [IntKind.wrap_i64]; omega
  obtain ⟨K, hK⟩ : ∃ K : Int, K = (by8 s 0 : Int) - 129 := ⟨_, rfl⟩
  have vK : IntKind.i64.wrap ((by8 s 0 : Int) - 129) = K := by simp only [IntKind.wrap_i64]; omega
  have kk : (K == 1) = true := by rw [beq_iff_eq]; omega
  have k1g : ¬ (1 : Int) < K := by omega
  have hK1 : K = 1 := by omega
  have HKK := Lib.hid hK
  have HB0 := Lib.hid h0
  clear hK h0
  generalize by8 s 0 = b0 at *
  have hbk := bldr_tk6 K
  have hff : fok (tkC ⟨true, 1, K, 0, zeroA, false, 0, 0, [], []⟩ (.slice none 0 0) (.slice none 0 0)).toArray 26 = true := fok_tk zeroA_ok rfl rfl
  have hfm := QO.free0 w
  have H0 := Lib.hid (QO.start w K)
  have HF6 : Hid (∀ W, Calls Tryz.prog 90 #[.string (Str s), .int .i64 8] W fun x w' => x = .returned (.agg (adC (sixL s 8)).toArray) ∧ Below W.heap.size W w') := Lib.hid fun W => rsix_any s hs 8 (by omega) W
  have HO := Lib.hid (show adOk (sixL s 8) from sixL_ok s 8)
  have HG := Lib.hid (fun W => rgroup9_any (sixL s 8) HO.out W)
  have HZ := Lib.hid (fun W => rzero9_any (sixL s 8) HO.out W)
  have HGZ := Lib.hid (fun h : grp9 (sixL s 8) = true => grp9_zer h)
  have hfg : fok (adC (sixL s 8)).toArray 17 = true := fok_addr _ _ HO.out
  obtain ⟨G, hGe⟩ : ∃ G, G = sixL s 8 := ⟨_, rfl⟩
  rw [← hGe] at HF6 HO HG HZ HGZ hfg HQ
  have HGE := Lib.hid hGe
  clear hGe
  have n4l := wd_lt s 4 (by omega)
  have HN4 : Hid (∀ W, Calls Tryz.prog 88 #[.string ((Str s).extract 4 6)] W fun x w' => x = .returned (.int .u64 (wd s 4)) ∧ w' = W) := Lib.hid fun W => rnum3 s hs 4 6 W
  have v4 : IntKind.i64.wrap (wd s 4 : Int) = (wd s 4 : Int) := by simp only [IntKind.wrap_i64]; omega
  have hi6 : (6 : Int) ≤ (s.length : Int) := by omega
  obtain ⟨n4, hn4⟩ : ∃ n, n = wd s 4 := ⟨_, rfl⟩
  rw [← hn4] at HN4 v4 n4l HQ
  have HNE4 := Lib.hid hn4
  clear hn4
  clear hk hl
  subst hK1
  go_enter Tryz.func55, Tryz.ntmps55
  go_upto_region 2 with (fail)
  generalize aggW ((w.alloc (.cells #[.bool false, .int .i64 0, .int .i64 0, .int .i64 0, .bool false, .int .u8 0, .int .u8 0, .int .u8 0, .int .u8 0, .int .u8 0, .int .u8 0, .int .u8 0, .int .u8 0, .int .u8 0, .int .u8 0, .int .u8 0, .int .u8 0, .int .u8 0, .int .u8 0, .int .u8 0, .int .u8 0, .bool false, .int .i64 0, .int .i64 0, .slice none 0 0, .slice none 0 0] 28)).alloc (.cells #[.bool false, .int .i64 0, .int .i64 0, .int .i64 0, .bool false, .int .u8 0, .int .u8 0, .int .u8 0, .int .u8 0, .int .u8 0, .int .u8 0, .int .u8 0, .int .u8 0, .int .u8 0, .int .u8 0, .int .u8 0, .int .u8 0, .int .u8 0, .int .u8 0, .int .u8 0, .int .u8 0, .bool false, .int .i64 0, .int .i64 0, .slice none 0 0, .slice none 0 0] 28)) (w.heap.size + 1) _ = W at H0 ⊢
  generalize w.heap.size + 1 = m at H0 ⊢
  clear hbk hff hfm
  obtain ⟨k1, k2, k3, k4, k5, k6, k7, k8, k9, ka, kb, kc, kf, kg, kh⟩ := H0.out.c
  try simp only at k1 k2 k3 k4 k5 k8 k9 ka kb kc kh
  go_upto_region 7 with (go_at_call 90; (with_reducible refine (HF6.out _).mono ?_); rintro x w2 ⟨rfl, hb2⟩; have H1 := Lib.hid (H0.out.below hb2); clear hb2 k1 k2 k3 k4 k5 k6 k7 k8 k9 ka kb kc kf kg kh; obtain ⟨k1, k2, k3, k4, k5, k6, k7, k8, k9, ka, kb, kc, kf, kg, kh⟩ := H1.out.c; try simp only at k1 k2 k3 k4 k5 k8 k9 ka kb kc kh)
  have H2 := Lib.hid (H1.out.grp G HO.out)
  try simp only at H2
  generalize aggO w2 m 4 _ = W2 at H2 ⊢
  clear k1 k2 k3 k4 k5 k6 k7 k8 k9 ka kb kc kf kg kh
  obtain ⟨k1, k2, k3, k4, k5, k6, k7, k8, k9, ka, kb, kc, kf, kg, kh⟩ := H2.out.c
  try simp only at k1 k2 k3 k4 k5 k8 k9 ka kb kc kh
  cases hg : grp9 G with
  | true =>
    rw [hg] at HG
    have HGG := Lib.hid (show ¬ (grp9 G = false ∧ zer9 G = false) by rw [hg]; simp)
    clear hg
    go_upto_region 12 with (first | (go_at_call 34; (with_reducible refine (HG.out _).mono ?_); rintro x w3 ⟨rfl, hb3⟩; have H3 := Lib.hid (H2.out.below hb3); clear hb3 k1 k2 k3 k4 k5 k6 k7 k8 k9 ka kb kc kf kg kh; obtain ⟨k1, k2, k3, k4, k5, k6, k7, k8, k9, ka, kb, kc, kf, kg, kh⟩ := H3.out.c; try simp only at k1 k2 k3 k4 k5 k8 k9 ka kb kc kh) | (go_at_call 88; (with_reducible refine (HN4.out _).mono ?_); rintro x w5 ⟨rfl, hw5⟩; subst hw5))
    have H6 := Lib.hid (H3.out.set 3 (.int .i64 (n4 : Nat)) (tkC_resp _ _ _ _) HO.out (AdsT.nil _) (RcT.nil _))
    simp only at H6
    generalize World.setCell _ ⟨m, 3, none⟩ _ = W6 at H6 ⊢
    clear k1 k2 k3 k4 k5 k6 k7 k8 k9 ka kb kc kf kg kh
    obtain ⟨k1, k2, k3, k4, k5, k6, k7, k8, k9, ka, kb, kc, kf, kg, kh⟩ := H6.out.c
    try simp only at k1 k2 k3 k4 k5 k8 k9 ka kb kc kh
    go_upto_region 13 with (fail)
    repeat (first | go_values | go_skip | go_guarded | go_step | go_upon | go_in)
    obtain ⟨qr1, qr2⟩ := H6.out.ret (s := s) (e := 0) (by rw [HQ.out, if_neg HGG.out]) (fun _ => by rw [HQ.out, if_neg HGG.out])
    exact bodyPost_ret (results_cell2 Tryz.results55 rfl (ld_some qr1 (ldr_tk _ _ _))) rfl qr2
  | false =>
    rw [hg] at HG
    cases hz : zer9 G with
    | true =>
      rw [hz] at HZ
      have HGG := Lib.hid (show ¬ (grp9 G = false ∧ zer9 G = false) by rw [hz]; simp)
      clear hg hz
      go_upto_region 12 with (first | (go_at_call 34; (with_reducible refine (HG.out _).mono ?_); rintro x w3 ⟨rfl, hb3⟩; have H3 := Lib.hid (H2.out.below hb3); clear hb3 k1 k2 k3 k4 k5 k6 k7 k8 k9 ka kb kc kf kg kh; obtain ⟨k1, k2, k3, k4, k5, k6, k7, k8, k9, ka, kb, kc, kf, kg, kh⟩ := H3.out.c; try simp only at k1 k2 k3 k4 k5 k8 k9 ka kb kc kh) | (go_at_call 37; (with_reducible refine (HZ.out _).mono ?_); rintro x w4 ⟨rfl, hb4⟩; have H4 := Lib.hid (H3.out.below hb4); clear hb4 k1 k2 k3 k4 k5 k6 k7 k8 k9 ka kb kc kf kg kh; obtain ⟨k1, k2, k3, k4, k5, k6, k7, k8, k9, ka, kb, kc, kf, kg, kh⟩ := H4.out.c; try simp only at k1 k2 k3 k4 k5 k8 k9 ka kb kc kh) | (go_at_call 88; (with_reducible refine (HN4.out _).mono ?_); rintro x w5 ⟨rfl, hw5⟩; subst hw5))
      have H6 := Lib.hid (H4.out.set 3 (.int .i64 (n4 : Nat)) (tkC_resp _ _ _ _) HO.out (AdsT.nil _) (RcT.nil _))
      simp only at H6
      generalize World.setCell _ ⟨m, 3, none⟩ _ = W6 at H6 ⊢
      clear k1 k2 k3 k4 k5 k6 k7 k8 k9 ka kb kc kf kg kh
      obtain ⟨k1, k2, k3, k4, k5, k6, k7, k8, k9, ka, kb, kc, kf, kg, kh⟩ := H6.out.c
      try simp only at k1 k2 k3 k4 k5 k8 k9 ka kb kc kh
      go_upto_region 13 with (fail)
      repeat (first | go_values | go_skip | go_guarded | go_step | go_upon | go_in)
      obtain ⟨qr1, qr2⟩ := H6.out.ret (s := s) (e := 0) (by rw [HQ.out, if_neg HGG.out]) (fun _ => by rw [HQ.out, if_neg HGG.out])
      exact bodyPost_ret (results_cell2 Tryz.results55 rfl (ld_some qr1 (ldr_tk _ _ _))) rfl qr2
    | false =>
      rw [hz] at HZ
      have HGG := Lib.hid (And.intro hg hz)
      clear hg hz
      go_upto_region 8 with (first | (go_at_call 34; (with_reducible refine (HG.out _).mono ?_); rintro x w3 ⟨rfl, hb3⟩; have H3 := Lib.hid (H2.out.below hb3); clear hb3 k1 k2 k3 k4 k5 k6 k7 k8 k9 ka kb kc kf kg kh; obtain ⟨k1, k2, k3, k4, k5, k6, k7, k8, k9, ka, kb, kc, kf, kg, kh⟩ := H3.out.c; try simp only at k1 k2 k3 k4 k5 k8 k9 ka kb kc kh) | (go_at_call 37; (with_reducible refine (HZ.out _).mono ?_); rintro x w4 ⟨rfl, hb4⟩; have H4 := Lib.hid (H3.out.below hb4); clear hb4 k1 k2 k3 k4 k5 k6 k7 k8 k9 ka kb kc kf kg kh; obtain ⟨k1, k2, k3, k4, k5, k6, k7, k8, k9, ka, kb, kc, kf, kg, kh⟩ := H4.out.c; try simp only at k1 k2 k3 k4 k5 k8 k9 ka kb kc kh))
      repeat (first | go_values | go_skip | go_guarded | go_step | go_upon | go_in)
      obtain ⟨qr1, qr2⟩ := H4.out.ret (s := s) (e := 2) (by rw [HQ.out, if_pos HGG.out]) (fun h => absurd h (by omega))
      exact bodyPost_ret (results_cell2 Tryz.results55 rfl (ld_some qr1 (ldr_tk _ _ _))) rfl qr2

set_option maxRecDepth 100000 in
set_option maxHeartbeats 4000000 in
theorem rone_28g (s : List UInt8) (hs : s.length ≤ 100000) (h0 : 130 ≤ by8 s 0 ∧ by8 s 0 ≤ 132) (hk : by8 s 0 = 130) (hl : 28 ≤ s.length) (hgg : grp9 (sixL s 8) = true) (w : World) :
    Calls Tryz.prog 55 #[.string (Str s)] w fun x w' => OneP w s x w' := by
  have hQ : one9 s = if grp9 (sixL s 8) = false ∧ zer9 (sixL s 8) = false then (zeroT, 2)
      else if zer9 (sixL s 8) = true ∧ 0 < wd s 26 then (zeroT, 2)
      else if srcsE9 s 28 (wd s 26) ≠ 0 then (zeroT, srcsE9 s 28 (wd s 26))
      else (⟨true, 2, 1, valN (wd s 4) 4096, sixL s 8, decide (by8 s 24 / 8 % 2 = 1), (by8 s 24 % 8 : Nat), valN (by8 s 25) 16, srcsL9 s 28 (wd s 26), []⟩, 0) := by
    unfold one9
    rw [if_neg (by omega), if_neg (by omega)]
    by_cases hg : grp9 (sixL s 8) = false ∧ zer9 (sixL s 8) = false
    · rw [if_pos ⟨hg.1, Or.inr hg.2⟩, if_pos hg]
    · rw [if_neg (fun h => hg ⟨h.1, h.2.resolve_left (fun h => h hk)⟩), if_neg hg, if_neg (by omega), if_neg (by omega)]
  have HQ := Lib.hid hQ
  clear hQ
  have d1 : (24 : Int) < (s.length : Int) := by omega
  have d2 : ¬ (s.length : Int) < 28 := by omega
  have d3 : ((s.length : Int) == 24) = false := by rw [beq_eq_false_iff_ne]; omega
  have hd : ¬ (s.length : Int) < 24 := by omega
  have hsz := Str_size s
  have i0 : (0 : Int) < (s.length : Int) := by omega
  have hn0 : 0 < s.length := by omega
  have e0 := Str_at s 0 (by rw [Str_size]; exact hn0)
  have v0 : IntKind.i64.wrap (by8 s 0 : Int) = (by8 s 0 : Int) := by simp only [IntKind.wrap_i64]; omega
  obtain ⟨K, hK⟩ : ∃ K : Int, K = (by8 s 0 : Int) - 129 := ⟨_, rfl⟩
  have vK : IntKind.i64.wrap ((by8 s 0 : Int) - 129) = K := by simp only [IntKind.wrap_i64]; omega
  have kk : (K == 1) = true := by rw [beq_iff_eq]; omega
  have k1g : ¬ (1 : Int) < K := by omega
  have hK1 : K = 1 := by omega
  have HKK := Lib.hid hK
  have HB0 := Lib.hid h0
  clear hK h0
  generalize by8 s 0 = b0 at *
  have hbk := bldr_tk6 K
  have hff : fok (tkC ⟨true, 1, K, 0, zeroA, false, 0, 0, [], []⟩ (.slice none 0 0) (.slice none 0 0)).toArray 26 = true := fok_tk zeroA_ok rfl rfl
  have hfm := QO.free0 w
  have H0 := Lib.hid (QO.start w K)
  have HF6 : Hid (∀ W, Calls Tryz.prog 90 #[.string (Str s), .int .i64 8] W fun x w' => x = .returned (.agg (adC (sixL s 8)).toArray) ∧ Below W.heap.size W w') := Lib.hid fun W => rsix_any s hs 8 (by omega) W
  have HO := Lib.hid (show adOk (sixL s 8) from sixL_ok s 8)
  have HG := Lib.hid (fun W => rgroup9_any (sixL s 8) HO.out W)
  have HZ := Lib.hid (fun W => rzero9_any (sixL s 8) HO.out W)
  have HGZ := Lib.hid (fun h : grp9 (sixL s 8) = true => grp9_zer h)
  have hfg : fok (adC (sixL s 8)).toArray 17 = true := fok_addr _ _ HO.out
  obtain ⟨G, hGe⟩ : ∃ G, G = sixL s 8 := ⟨_, rfl⟩
  rw [← hGe] at hgg HF6 HO HG HZ HGZ hfg HQ
  have HGE := Lib.hid hGe
  clear hGe
  have n4l := wd_lt s 4 (by omega)
  have HN4 : Hid (∀ W, Calls Tryz.prog 88 #[.string ((Str s).extract 4 6)] W fun x w' => x = .returned (.int .u64 (wd s 4)) ∧ w' = W) := Lib.hid fun W => rnum3 s hs 4 6 W
  have v4 : IntKind.i64.wrap (wd s 4 : Int) = (wd s 4 : Int) := by simp only [IntKind.wrap_i64]; omega
  have hi6 : (6 : Int) ≤ (s.length : Int) := by omega
  obtain ⟨n4, hn4⟩ : ∃ n, n = wd s 4 := ⟨_, rfl⟩
  rw [← hn4] at HN4 v4 n4l HQ
  have HNE4 := Lib.hid hn4
  clear hn4
  have i25 : (25 : Int) < (s.length : Int) := by omega
  have i24 : (24 : Int) < (s.length : Int) := by omega
  have hn25 : 25 < s.length := by omega
  have hn24 : 24 < s.length := by omega
  have e25 := Str_at s 25 (by rw [Str_size]; exact hn25)
  have e24 := Str_at s 24 (by rw [Str_size]; exact hn24)
  have b25l := by8_lt s 25
  have b24l := by8_lt s 24
  obtain ⟨b25, hb25⟩ : ∃ b, b = by8 s 25 := ⟨_, rfl⟩
  obtain ⟨b8, hb8⟩ : ∃ b, b = by8 s 24 := ⟨_, rfl⟩
  rw [← hb25] at e25 b25l
  rw [← hb8] at e24 b24l
  have HB25 := Lib.hid hb25
  have HB8 := Lib.hid hb8
  clear hb25 hb8
  have v25 : IntKind.i64.wrap (b25 : Int) = (b25 : Int) := by simp only [IntKind.wrap_i64]; omega
  obtain ⟨V1, hV1⟩ : ∃ v, v = valN n4 4096 := ⟨_, rfl⟩
  obtain ⟨V9, hV9⟩ : ∃ v, v = valN b25 16 := ⟨_, rfl⟩
  have HE1 := Lib.hid hV1
  have HE9 := Lib.hid hV9
  clear hV1 hV9
  have HV1 : Hid (∀ W, Calls Tryz.prog 38 #[.int .i64 n4] W fun x w' => x = .returned (.int .i64 V1) ∧ w' = W) := Lib.hid fun W => (rvalue16 n4 W).mono fun _ _ h => by
    rw [show clampN ((n4 : Nat) : Int) 65535 = n4 by unfold clampN; split <;> omega, ← HE1.out] at h
    exact ⟨h.1, h.2.symm⟩
  have HV9 : Hid (∀ W, Calls Tryz.prog 40 #[.int .i64 b25] W fun x w' => x = .returned (.int .i64 V9) ∧ w' = W) := Lib.hid fun W => (rvalue8 b25 W).mono fun _ _ h => by
    rw [show clampN ((b25 : Nat) : Int) 255 = b25 by unfold clampN; split <;> omega, ← HE9.out] at h
    exact ⟨h.1, h.2.symm⟩
  obtain ⟨c8, hc8⟩ : ∃ c, c = b8 / 8 := ⟨_, rfl⟩
  obtain ⟨d8, hd8⟩ : ∃ c, c = c8 % 2 := ⟨_, rfl⟩
  obtain ⟨r8, hr8⟩ : ∃ c, c = b8 % 8 := ⟨_, rfl⟩
  obtain ⟨qb, hqb⟩ : ∃ q, q = ((d8 : Int) == 1) := ⟨_, rfl⟩
  have t81 : (b8 : Int).tdiv 8 = (c8 : Int) := by rw [hc8]; rfl
  have t82 : (b8 : Int) / 8 = (c8 : Int) := by rw [hc8]; rfl
  have t83 : (c8 : Int).tmod 2 = (d8 : Int) := by rw [hd8]; rfl
  have t84 : (c8 : Int) % 2 = (d8 : Int) := by rw [hd8]; rfl
  have t85 : (b8 : Int).tmod 8 = (r8 : Int) := by rw [hr8]; rfl
  have t86 : (b8 : Int) % 8 = (r8 : Int) := by rw [hr8]; rfl
  have y81 : IntKind.u8.wrap (c8 : Int) = (c8 : Int) := by simp only [IntKind.wrap_u8]; omega
  have y82 : IntKind.u8.wrap (d8 : Int) = (d8 : Int) := by simp only [IntKind.wrap_u8]; omega
  have y83 : IntKind.u8.wrap (r8 : Int) = (r8 : Int) := by simp only [IntKind.wrap_u8]; omega
  have y84 : IntKind.i64.wrap (r8 : Int) = (r8 : Int) := by simp only [IntKind.wrap_i64]; omega
  have tqb : ((d8 : Int) == 1) = qb := hqb.symm
  have HQB := Lib.hid (show qb = decide (by8 s 24 / 8 % 2 = 1) by rw [hqb, hd8, hc8, HB8.out, Bool.eq_iff_iff]; simp; omega)
  have HR8 := Lib.hid (show r8 = by8 s 24 % 8 by rw [hr8, HB8.out])
  clear hc8 hd8 hr8 hqb
  have n26l := wd_lt s 26 (by omega)
  have HN26 : Hid (∀ W, Calls Tryz.prog 88 #[.string ((Str s).extract 26 28)] W fun x w' => x = .returned (.int .u64 (wd s 26)) ∧ w' = W) := Lib.hid fun W => rnum3 s hs 26 28 W
  have vn : IntKind.i64.wrap (wd s 26 : Int) = (wd s 26 : Int) := by simp only [IntKind.wrap_i64]; omega
  have hi28 : (28 : Int) ≤ (s.length : Int) := by omega
  have HSR : Hid (∀ W, Calls Tryz.prog 91 #[.string (Str s), .int .i64 28, .int .i64 (wd s 26 : Nat)] W fun x w' => SrcM W s 28 (wd s 26) x w') := Lib.hid fun W => rsources9s_any s hs 28 (wd s 26) (by omega) (by omega) W
  obtain ⟨n26, hn26⟩ : ∃ n, n = wd s 26 := ⟨_, rfl⟩
  rw [← hn26] at HN26 vn HSR n26l HQ
  have HN := Lib.hid hn26
  clear hn26
  rw [← HB25.out, ← HB8.out] at HQ
  rw [← HB8.out] at HQB HR8
  rw [← HQB.out, ← HR8.out, ← HE1.out, ← HE9.out] at HQ
  clear hk hl
  subst hK1
  go_enter Tryz.func55, Tryz.ntmps55
  go_upto_region 2 with (fail)
  generalize aggW ((w.alloc (.cells #[.bool false, .int .i64 0, .int .i64 0, .int .i64 0, .bool false, .int .u8 0, .int .u8 0, .int .u8 0, .int .u8 0, .int .u8 0, .int .u8 0, .int .u8 0, .int .u8 0, .int .u8 0, .int .u8 0, .int .u8 0, .int .u8 0, .int .u8 0, .int .u8 0, .int .u8 0, .int .u8 0, .bool false, .int .i64 0, .int .i64 0, .slice none 0 0, .slice none 0 0] 28)).alloc (.cells #[.bool false, .int .i64 0, .int .i64 0, .int .i64 0, .bool false, .int .u8 0, .int .u8 0, .int .u8 0, .int .u8 0, .int .u8 0, .int .u8 0, .int .u8 0, .int .u8 0, .int .u8 0, .int .u8 0, .int .u8 0, .int .u8 0, .int .u8 0, .int .u8 0, .int .u8 0, .int .u8 0, .bool false, .int .i64 0, .int .i64 0, .slice none 0 0, .slice none 0 0] 28)) (w.heap.size + 1) _ = W at H0 ⊢
  generalize w.heap.size + 1 = m at H0 ⊢
  clear hbk hff hfm
  obtain ⟨k1, k2, k3, k4, k5, k6, k7, k8, k9, ka, kb, kc, kf, kg, kh⟩ := H0.out.c
  try simp only at k1 k2 k3 k4 k5 k8 k9 ka kb kc kh
  go_upto_region 7 with (go_at_call 90; (with_reducible refine (HF6.out _).mono ?_); rintro x w2 ⟨rfl, hb2⟩; have H1 := Lib.hid (H0.out.below hb2); clear hb2 k1 k2 k3 k4 k5 k6 k7 k8 k9 ka kb kc kf kg kh; obtain ⟨k1, k2, k3, k4, k5, k6, k7, k8, k9, ka, kb, kc, kf, kg, kh⟩ := H1.out.c; try simp only at k1 k2 k3 k4 k5 k8 k9 ka kb kc kh)
  have H2 := Lib.hid (H1.out.grp G HO.out)
  try simp only at H2
  generalize aggO w2 m 4 _ = W2 at H2 ⊢
  clear k1 k2 k3 k4 k5 k6 k7 k8 k9 ka kb kc kf kg kh
  obtain ⟨k1, k2, k3, k4, k5, k6, k7, k8, k9, ka, kb, kc, kf, kg, kh⟩ := H2.out.c
  try simp only at k1 k2 k3 k4 k5 k8 k9 ka kb kc kh
  have HZZ := Lib.hid (HGZ.out hgg)
  have HGG := Lib.hid (show ¬ (grp9 G = false ∧ zer9 G = false) by rw [hgg]; simp)
  rw [hgg] at HG
  rw [HZZ.out] at HZ
  clear hgg
  go_upto_region 12 with (first | (go_at_call 34; (with_reducible refine (HG.out _).mono ?_); rintro x w3 ⟨rfl, hb3⟩; have H3 := Lib.hid (H2.out.below hb3); clear hb3 k1 k2 k3 k4 k5 k6 k7 k8 k9 ka kb kc kf kg kh; obtain ⟨k1, k2, k3, k4, k5, k6, k7, k8, k9, ka, kb, kc, kf, kg, kh⟩ := H3.out.c; try simp only at k1 k2 k3 k4 k5 k8 k9 ka kb kc kh) | (go_at_call 88; (with_reducible refine (HN4.out _).mono ?_); rintro x w5 ⟨rfl, hw5⟩; subst hw5))
  have H6 := Lib.hid (H3.out.set 3 (.int .i64 (n4 : Nat)) (tkC_resp _ _ _ _) HO.out (AdsT.nil _) (RcT.nil _))
  simp only at H6
  generalize World.setCell _ ⟨m, 3, none⟩ _ = W6 at H6 ⊢
  clear k1 k2 k3 k4 k5 k6 k7 k8 k9 ka kb kc kf kg kh
  obtain ⟨k1, k2, k3, k4, k5, k6, k7, k8, k9, ka, kb, kc, kf, kg, kh⟩ := H6.out.c
  try simp only at k1 k2 k3 k4 k5 k8 k9 ka kb kc kh
  go_upto_region 14 with (fail)
  refine wp_region_held_drew (S := fun _ => True) (by kernel_rfl) (trivial) (fun hHeld => ?_)
  have Hs := Lib.hid (H6.out.below (show Below _ _ (World.drew _) from ⟨rfl, rfl, rfl, Nat.le_refl _, fun _ _ => rfl⟩))
  generalize World.drew _ = Wd at Hs hHeld ⊢
  clear k1 k2 k3 k4 k5 k6 k7 k8 k9 ka kb kc kf kg kh
  obtain ⟨k1, k2, k3, k4, k5, k6, k7, k8, k9, ka, kb, kc, kf, kg, kh⟩ := Hs.out.c
  try simp only at k1 k2 k3 k4 k5 k8 k9 ka kb kc kh
  refine wpAnyH_take (i := 0) (oi := { dst := some 63, op := _, type := _, pos := _, after := _, guard := _ }) (v := ?v41) rfl (by kernel_rfl) (by kernel_rfl) (by kernel_rfl) (fun _ _ _ h => h) (Or.inl ⟨by rfl, ?y41⟩) (by assumption) ?r41
  case y41 => (intro w hSw; go_simp; try with_reducible rfl)
  try simp only [Act.put, List.setIfInBounds_toArray, List.set_cons_zero, List.set_cons_succ]
  refine wpAnyH_take (i := 3) (oi := { dst := some 66, op := _, type := _, pos := _, after := _, guard := _ }) (v := ?v42) rfl (by kernel_rfl) (by kernel_rfl) (by kernel_rfl) (fun _ _ _ h => h) (Or.inl ⟨by rfl, ?y42⟩) (by assumption) ?r42
  case y42 => (intro w hSw; go_simp; try with_reducible rfl)
  try simp only [Act.put, List.setIfInBounds_toArray, List.set_cons_zero, List.set_cons_succ]
  refine wpAnyH_take (i := 4) (oi := { dst := some 67, op := _, type := _, pos := _, after := _, guard := _ }) (v := ?v43) rfl (by kernel_rfl) (by kernel_rfl) (by kernel_rfl) (fun _ _ _ h => h) (Or.inl ⟨by rfl, ?y43⟩) (by assumption) ?r43
  case y43 => (intro w hSw; go_simp; try with_reducible rfl)
  try simp only [Act.put, List.setIfInBounds_toArray, List.set_cons_zero, List.set_cons_succ]
  refine wpAnyH_take (i := 5) (oi := { dst := some 68, op := _, type := _, pos := _, after := _, guard := _ }) (v := ?v44) rfl (by kernel_rfl) (by kernel_rfl) (by kernel_rfl) (fun _ _ _ h => h) (Or.inl ⟨by rfl, ?y44⟩) (by assumption) ?r44
  case y44 => (intro w hSw; go_simp; try with_reducible rfl)
  try simp only [Act.put, List.setIfInBounds_toArray, List.set_cons_zero, List.set_cons_succ]
  refine wpAnyH_ready (rs := [1]) (by kernel_rfl) (by simp) (AllReadyH.cons (o := _) rfl (fun K hK => ?_) AllReadyH.nil)
  go_simp
  refine hK.out _ _ (trivial) (fun hHeld => ?_)
  clear hK K
  try simp only [Act.put, List.setIfInBounds_toArray, List.set_cons_zero, List.set_cons_succ]
  refine wpAnyH_take (i := 7) (oi := { dst := some 70, op := _, type := _, pos := _, after := _, guard := _ }) (v := ?v45) rfl (by kernel_rfl) (by kernel_rfl) (by kernel_rfl) (fun _ _ _ h => h) (Or.inl ⟨by rfl, ?y45⟩) (by assumption) ?r45
  case y45 => (intro w hSw; go_simp; try with_reducible rfl)
  try simp only [Act.put, List.setIfInBounds_toArray, List.set_cons_zero, List.set_cons_succ]
  refine wpAnyH_ready (rs := [2]) (by kernel_rfl) (by simp) (AllReadyH.cons (o := _) rfl (fun K hK => ?_) AllReadyH.nil)
  go_simp
  (go_at_call 38; (with_reducible refine (HV1.out _).mono ?_); rintro x w8 ⟨rfl, hw8⟩; subst hw8)
  try go_wp2_with fail
  refine hK.out _ _ (trivial) (fun hHeld => ?_)
  clear hK K
  try simp only [Act.put, List.setIfInBounds_toArray, List.set_cons_zero, List.set_cons_succ]
  refine wpAnyH_ready (rs := [6]) (by kernel_rfl) (by simp) (AllReadyH.cons (o := _) rfl (fun K hK => ?_) AllReadyH.nil)
  go_simp
  (go_at_call 40; (with_reducible refine (HV9.out _).mono ?_); rintro x w8 ⟨rfl, hw8⟩; subst hw8)
  try go_wp2_with fail
  refine hK.out _ _ (trivial) (fun hHeld => ?_)
  clear hK K
  try simp only [Act.put, List.setIfInBounds_toArray, List.set_cons_zero, List.set_cons_succ]
  refine wpAnyH_ready (rs := [8]) (by kernel_rfl) (by simp) (AllReadyH.cons (o := _) rfl (fun K hK => ?_) AllReadyH.nil)
  go_simp
  refine hK.out _ _ (trivial) (fun hHeld => ?_)
  clear hK K
  try simp only [Act.put, List.setIfInBounds_toArray, List.set_cons_zero, List.set_cons_succ]
  have Ha := Lib.hid (Hs.out.set 1 (.int .i64 2) (tkC_ver _ _ _ _) HO.out (AdsT.nil _) (RcT.nil _))
  simp only at Ha
  generalize World.setCell _ ⟨m, 1, none⟩ _ = Wa at Ha ⊢
  clear k1 k2 k3 k4 k5 k6 k7 k8 k9 ka kb kc kf kg kh
  obtain ⟨k1, k2, k3, k4, k5, k6, k7, k8, k9, ka, kb, kc, kf, kg, kh⟩ := Ha.out.c
  try simp only at k1 k2 k3 k4 k5 k8 k9 ka kb kc kh
  refine wpAnyH_take (i := 9) (oi := { dst := some 71, op := _, type := _, pos := _, after := _, guard := _ }) (v := ?v46) rfl (by kernel_rfl) (by kernel_rfl) (by kernel_rfl) (fun _ _ _ h => h) (Or.inl ⟨by rfl, ?y46⟩) (by assumption) ?r46
  case y46 => (intro w hSw; go_simp; try with_reducible rfl)
  try simp only [Act.put, List.setIfInBounds_toArray, List.set_cons_zero, List.set_cons_succ]
  refine wpAnyH_ready (rs := [10]) (by kernel_rfl) (by simp) (AllReadyH.cons (o := _) rfl (fun K hK => ?_) AllReadyH.nil)
  go_simp
  refine hK.out _ _ (trivial) (fun hHeld => ?_)
  clear hK K
  try simp only [Act.put, List.setIfInBounds_toArray, List.set_cons_zero, List.set_cons_succ]
  have Hb := Lib.hid (Ha.out.set 3 (.int .i64 (V1 : Nat)) (tkC_resp _ _ _ _) HO.out (AdsT.nil _) (RcT.nil _))
  simp only at Hb
  generalize World.setCell _ ⟨m, 3, none⟩ _ = Wb at Hb ⊢
  clear k1 k2 k3 k4 k5 k6 k7 k8 k9 ka kb kc kf kg kh
  obtain ⟨k1, k2, k3, k4, k5, k6, k7, k8, k9, ka, kb, kc, kf, kg, kh⟩ := Hb.out.c
  try simp only at k1 k2 k3 k4 k5 k8 k9 ka kb kc kh
  refine wpAnyH_take (i := 11) (oi := { dst := some 72, op := _, type := _, pos := _, after := _, guard := _ }) (v := ?v47) rfl (by kernel_rfl) (by kernel_rfl) (by kernel_rfl) (fun _ _ _ h => h) (Or.inl ⟨by rfl, ?y47⟩) (by assumption) ?r47
  case y47 => (intro w hSw; go_simp; try with_reducible rfl)
  try simp only [Act.put, List.setIfInBounds_toArray, List.set_cons_zero, List.set_cons_succ]
  refine wpAnyH_ready (rs := [12]) (by kernel_rfl) (by simp) (AllReadyH.cons (o := _) rfl (fun K hK => ?_) AllReadyH.nil)
  go_simp
  refine hK.out _ _ (trivial) (fun hHeld => ?_)
  clear hK K
  try simp only [Act.put, List.setIfInBounds_toArray, List.set_cons_zero, List.set_cons_succ]
  have Hc := Lib.hid (Hb.out.set 23 (.int .i64 (V9 : Nat)) (tkC_every _ _ _ HO.out _) HO.out (AdsT.nil _) (RcT.nil _))
  simp only at Hc
  generalize World.setCell _ ⟨m, 23, none⟩ _ = Wc at Hc ⊢
  clear k1 k2 k3 k4 k5 k6 k7 k8 k9 ka kb kc kf kg kh
  obtain ⟨k1, k2, k3, k4, k5, k6, k7, k8, k9, ka, kb, kc, kf, kg, kh⟩ := Hc.out.c
  try simp only at k1 k2 k3 k4 k5 k8 k9 ka kb kc kh
  refine wpAnyH_done (by kernel_rfl) ?_ _
  go_upto_region 15 with (fail)
  refine wp_region_held_drew (S := fun _ => True) (by kernel_rfl) (trivial) (fun hHeld => ?_)
  have Ht := Lib.hid (Hc.out.below (show Below _ _ (World.drew _) from ⟨rfl, rfl, rfl, Nat.le_refl _, fun _ _ => rfl⟩))
  generalize World.drew _ = Wg at Ht hHeld ⊢
  clear k1 k2 k3 k4 k5 k6 k7 k8 k9 ka kb kc kf kg kh
  obtain ⟨k1, k2, k3, k4, k5, k6, k7, k8, k9, ka, kb, kc, kf, kg, kh⟩ := Ht.out.c
  try simp only at k1 k2 k3 k4 k5 k8 k9 ka kb kc kh
  refine wpAnyH_take (i := 0) (oi := { dst := some 73, op := _, type := _, pos := _, after := _, guard := _ }) (v := ?v71) rfl (by kernel_rfl) (by kernel_rfl) (by kernel_rfl) (fun _ _ _ h => h) (Or.inl ⟨by rfl, ?y71⟩) (by assumption) ?r71
  case y71 => (intro w hSw; go_simp; try with_reducible rfl)
  try simp only [Act.put, List.setIfInBounds_toArray, List.set_cons_zero, List.set_cons_succ]
  refine wpAnyH_take (i := 1) (oi := { dst := some 74, op := _, type := _, pos := _, after := _, guard := _ }) (v := ?v72) rfl (by kernel_rfl) (by kernel_rfl) (by kernel_rfl) (fun _ _ _ h => h) (Or.inl ⟨by rfl, ?y72⟩) (by assumption) ?r72
  case y72 => (intro w hSw; go_simp; try with_reducible rfl)
  try simp only [Act.put, List.setIfInBounds_toArray, List.set_cons_zero, List.set_cons_succ]
  refine wpAnyH_take (i := 2) (oi := { dst := some 75, op := _, type := _, pos := _, after := _, guard := _ }) (v := ?v73) rfl (by kernel_rfl) (by kernel_rfl) (by kernel_rfl) (fun _ _ _ h => h) (Or.inl ⟨by rfl, ?y73⟩) (by assumption) ?r73
  case y73 => (intro w hSw; go_simp; try with_reducible rfl)
  try simp only [Act.put, List.setIfInBounds_toArray, List.set_cons_zero, List.set_cons_succ]
  refine wpAnyH_take (i := 3) (oi := { dst := some 76, op := _, type := _, pos := _, after := _, guard := _ }) (v := ?v74) rfl (by kernel_rfl) (by kernel_rfl) (by kernel_rfl) (fun _ _ _ h => h) (Or.inl ⟨by rfl, ?y74⟩) (by assumption) ?r74
  case y74 => (intro w hSw; go_simp; try with_reducible rfl)
  try simp only [Act.put, List.setIfInBounds_toArray, List.set_cons_zero, List.set_cons_succ]
  refine wpAnyH_take (i := 4) (oi := { dst := some 77, op := _, type := _, pos := _, after := _, guard := _ }) (v := ?v75) rfl (by kernel_rfl) (by kernel_rfl) (by kernel_rfl) (fun _ _ _ h => h) (Or.inl ⟨by rfl, ?y75⟩) (by assumption) ?r75
  case y75 => (intro w hSw; go_simp; try with_reducible rfl)
  try simp only [Act.put, List.setIfInBounds_toArray, List.set_cons_zero, List.set_cons_succ]
  refine wpAnyH_take (i := 5) (oi := { dst := some 78, op := _, type := _, pos := _, after := _, guard := _ }) (v := ?v76) rfl (by kernel_rfl) (by kernel_rfl) (by kernel_rfl) (fun _ _ _ h => h) (Or.inl ⟨by rfl, ?y76⟩) (by assumption) ?r76
  case y76 => (intro w hSw; go_simp; try with_reducible rfl)
  try simp only [Act.put, List.setIfInBounds_toArray, List.set_cons_zero, List.set_cons_succ]
  refine wpAnyH_take (i := 6) (oi := { dst := some 79, op := _, type := _, pos := _, after := _, guard := _ }) (v := ?v77) rfl (by kernel_rfl) (by kernel_rfl) (by kernel_rfl) (fun _ _ _ h => h) (Or.inl ⟨by rfl, ?y77⟩) (by assumption) ?r77
  case y77 => (intro w hSw; go_simp; try with_reducible rfl)
  try simp only [Act.put, List.setIfInBounds_toArray, List.set_cons_zero, List.set_cons_succ]
  refine wpAnyH_take (i := 7) (oi := { dst := some 80, op := _, type := _, pos := _, after := _, guard := _ }) (v := ?v78) rfl (by kernel_rfl) (by kernel_rfl) (by kernel_rfl) (fun _ _ _ h => h) (Or.inl ⟨by rfl, ?y78⟩) (by assumption) ?r78
  case y78 => (intro w hSw; go_simp; try with_reducible rfl)
  try simp only [Act.put, List.setIfInBounds_toArray, List.set_cons_zero, List.set_cons_succ]
  refine wpAnyH_take (i := 8) (oi := { dst := some 81, op := _, type := _, pos := _, after := _, guard := _ }) (v := ?v79) rfl (by kernel_rfl) (by kernel_rfl) (by kernel_rfl) (fun _ _ _ h => h) (Or.inl ⟨by rfl, ?y79⟩) (by assumption) ?r79
  case y79 => (intro w hSw; go_simp; try with_reducible rfl)
  try simp only [Act.put, List.setIfInBounds_toArray, List.set_cons_zero, List.set_cons_succ]
  refine wpAnyH_take (i := 9) (oi := { dst := some 82, op := _, type := _, pos := _, after := _, guard := _ }) (v := ?v80) rfl (by kernel_rfl) (by kernel_rfl) (by kernel_rfl) (fun _ _ _ h => h) (Or.inl ⟨by rfl, ?y80⟩) (by assumption) ?r80
  case y80 => (intro w hSw; go_simp; try with_reducible rfl)
  try simp only [Act.put, List.setIfInBounds_toArray, List.set_cons_zero, List.set_cons_succ]
  refine wpAnyH_ready (rs := [10]) (by kernel_rfl) (by simp) (AllReadyH.cons (o := _) rfl (fun K hK => ?_) AllReadyH.nil)
  go_simp
  refine hK.out _ _ (trivial) (fun hHeld => ?_)
  clear hK K
  try simp only [Act.put, List.setIfInBounds_toArray, List.set_cons_zero, List.set_cons_succ]
  have Hd := Lib.hid (Ht.out.set 21 (.bool qb) (tkC_quiet _ _ _ HO.out _) HO.out (AdsT.nil _) (RcT.nil _))
  simp only at Hd
  generalize World.setCell _ ⟨m, 21, none⟩ _ = We at Hd ⊢
  clear k1 k2 k3 k4 k5 k6 k7 k8 k9 ka kb kc kf kg kh
  obtain ⟨k1, k2, k3, k4, k5, k6, k7, k8, k9, ka, kb, kc, kf, kg, kh⟩ := Hd.out.c
  try simp only at k1 k2 k3 k4 k5 k8 k9 ka kb kc kh
  refine wpAnyH_take (i := 11) (oi := { dst := some 83, op := _, type := _, pos := _, after := _, guard := _ }) (v := ?v81) rfl (by kernel_rfl) (by kernel_rfl) (by kernel_rfl) (fun _ _ _ h => h) (Or.inl ⟨by rfl, ?y81⟩) (by assumption) ?r81
  case y81 => (intro w hSw; go_simp; try with_reducible rfl)
  try simp only [Act.put, List.setIfInBounds_toArray, List.set_cons_zero, List.set_cons_succ]
  refine wpAnyH_ready (rs := [12]) (by kernel_rfl) (by simp) (AllReadyH.cons (o := _) rfl (fun K hK => ?_) AllReadyH.nil)
  go_simp
  refine hK.out _ _ (trivial) (fun hHeld => ?_)
  clear hK K
  try simp only [Act.put, List.setIfInBounds_toArray, List.set_cons_zero, List.set_cons_succ]
  have He := Lib.hid (Hd.out.set 22 (.int .i64 (r8 : Nat)) (tkC_rob _ _ _ HO.out _) HO.out (AdsT.nil _) (RcT.nil _))
  simp only at He
  generalize World.setCell _ ⟨m, 22, none⟩ _ = Wf at He ⊢
  clear k1 k2 k3 k4 k5 k6 k7 k8 k9 ka kb kc kf kg kh
  obtain ⟨k1, k2, k3, k4, k5, k6, k7, k8, k9, ka, kb, kc, kf, kg, kh⟩ := He.out.c
  try simp only at k1 k2 k3 k4 k5 k8 k9 ka kb kc kh
  refine wpAnyH_done (by kernel_rfl) ?_ _
  go_upto_region 20 with (first | (go_at_call 88; (with_reducible refine (HN26.out _).mono ?_); rintro x w9 ⟨rfl, hw9⟩; subst hw9) | (go_at_call 37; (with_reducible refine (HZ.out _).mono ?_); rintro x wz ⟨rfl, hbz⟩; have Hf := Lib.hid (He.out.below hbz); clear hbz k1 k2 k3 k4 k5 k6 k7 k8 k9 ka kb kc kf kg kh; obtain ⟨k1, k2, k3, k4, k5, k6, k7, k8, k9, ka, kb, kc, kf, kg, kh⟩ := Hf.out.c; try simp only at k1 k2 k3 k4 k5 k8 k9 ka kb kc kh) | (go_at_call 91; (with_reducible refine (HSR.out _).mono ?_); rintro x wh ⟨v5, l5, rfl, hb5, ha5, hs5⟩; obtain ⟨pp5, cc5, ev5, hl5, hc5⟩ := ha5.1.len; subst ev5; have Hh := Lib.hid (Hf.out.below hb5); have HA5 := Lib.hid (show AdsT wh (.slice pp5 l5.length cc5) l5 from ha5); have HS5 := Lib.hid hs5; clear hb5 ha5 hs5 k1 k2 k3 k4 k5 k6 k7 k8 k9 ka kb kc kf kg kh; obtain ⟨k1, k2, k3, k4, k5, k6, k7, k8, k9, ka, kb, kc, kf, kg, kh⟩ := Hh.out.c; try simp only at k1 k2 k3 k4 k5 k8 k9 ka kb kc kh))
  go_upto_region 21 with (fail)
  have Hi := Lib.hid (Hh.out.set 24 (.slice pp5 l5.length cc5) (tkC_src _ _ _ HO.out (.slice pp5 l5.length cc5) l5) HO.out (by simpa using HA5.out) (RcT.nil _))
  simp only at Hi
  clear k1 k2 k3 k4 k5 k6 k7 k8 k9 ka kb kc kf kg kh
  generalize World.setCell _ ⟨m, 24, none⟩ _ = Wi at Hi ⊢
  obtain ⟨k1, k2, k3, k4, k5, k6, k7, k8, k9, ka, kb, kc, kf, kg, kh⟩ := Hi.out.c
  try simp only at k1 k2 k3 k4 k5 k8 k9 ka kb kc kh
  repeat (first | go_values | go_skip | go_guarded | go_step | go_upon | go_in)
  obtain ⟨qr1, qr2⟩ := Hi.out.ret (s := s) (e := srcsE9 s 28 n26) (by rw [HQ.out, if_neg HGG.out, if_neg (fun h => absurd (HZZ.out.symm.trans h.1) (by simp))]; exact snd_ite9 _ _ _) (fun h => by rw [HQ.out, if_neg HGG.out, if_neg (fun h => absurd (HZZ.out.symm.trans h.1) (by simp)), if_neg (by rw [h]; simp), HS5.out h])
  exact bodyPost_ret (results_cell2 Tryz.results55 rfl (ld_some qr1 (ldr_tk _ _ _))) rfl qr2

set_option maxRecDepth 100000 in
set_option maxHeartbeats 4000000 in
theorem rone_28z (s : List UInt8) (hs : s.length ≤ 100000) (h0 : 130 ≤ by8 s 0 ∧ by8 s 0 ≤ 132) (hk : by8 s 0 = 130) (hl : 28 ≤ s.length) (hgg : grp9 (sixL s 8) = false) (hzz : zer9 (sixL s 8) = true) (w : World) :
    Calls Tryz.prog 55 #[.string (Str s)] w fun x w' => OneP w s x w' := by
  have hQ : one9 s = if grp9 (sixL s 8) = false ∧ zer9 (sixL s 8) = false then (zeroT, 2)
      else if zer9 (sixL s 8) = true ∧ 0 < wd s 26 then (zeroT, 2)
      else if srcsE9 s 28 (wd s 26) ≠ 0 then (zeroT, srcsE9 s 28 (wd s 26))
      else (⟨true, 2, 1, valN (wd s 4) 4096, sixL s 8, decide (by8 s 24 / 8 % 2 = 1), (by8 s 24 % 8 : Nat), valN (by8 s 25) 16, srcsL9 s 28 (wd s 26), []⟩, 0) := by
    unfold one9
    rw [if_neg (by omega), if_neg (by omega)]
    by_cases hg : grp9 (sixL s 8) = false ∧ zer9 (sixL s 8) = false
    · rw [if_pos ⟨hg.1, Or.inr hg.2⟩, if_pos hg]
    · rw [if_neg (fun h => hg ⟨h.1, h.2.resolve_left (fun h => h hk)⟩), if_neg hg, if_neg (by omega), if_neg (by omega)]
  have HQ := Lib.hid hQ
  clear hQ
  have d1 : (24 : Int) < (s.length : Int) := by omega
  have d2 : ¬ (s.length : Int) < 28 := by omega
  have d3 : ((s.length : Int) == 24) = false := by rw [beq_eq_false_iff_ne]; omega
  have hd : ¬ (s.length : Int) < 24 := by omega
  have hsz := Str_size s
  have i0 : (0 : Int) < (s.length : Int) := by omega
  have hn0 : 0 < s.length := by omega
  have e0 := Str_at s 0 (by rw [Str_size]; exact hn0)
  have v0 : IntKind.i64.wrap (by8 s 0 : Int) = (by8 s 0 : Int) := by simp only [IntKind.wrap_i64]; omega
  obtain ⟨K, hK⟩ : ∃ K : Int, K = (by8 s 0 : Int) - 129 := ⟨_, rfl⟩
  have vK : IntKind.i64.wrap ((by8 s 0 : Int) - 129) = K := by simp only [IntKind.wrap_i64]; omega
  have kk : (K == 1) = true := by rw [beq_iff_eq]; omega
  have k1g : ¬ (1 : Int) < K := by omega
  have hK1 : K = 1 := by omega
  have HKK := Lib.hid hK
  have HB0 := Lib.hid h0
  clear hK h0
  generalize by8 s 0 = b0 at *
  have hbk := bldr_tk6 K
  have hff : fok (tkC ⟨true, 1, K, 0, zeroA, false, 0, 0, [], []⟩ (.slice none 0 0) (.slice none 0 0)).toArray 26 = true := fok_tk zeroA_ok rfl rfl
  have hfm := QO.free0 w
  have H0 := Lib.hid (QO.start w K)
  have HF6 : Hid (∀ W, Calls Tryz.prog 90 #[.string (Str s), .int .i64 8] W fun x w' => x = .returned (.agg (adC (sixL s 8)).toArray) ∧ Below W.heap.size W w') := Lib.hid fun W => rsix_any s hs 8 (by omega) W
  have HO := Lib.hid (show adOk (sixL s 8) from sixL_ok s 8)
  have HG := Lib.hid (fun W => rgroup9_any (sixL s 8) HO.out W)
  have HZ := Lib.hid (fun W => rzero9_any (sixL s 8) HO.out W)
  have HGZ := Lib.hid (fun h : grp9 (sixL s 8) = true => grp9_zer h)
  have hfg : fok (adC (sixL s 8)).toArray 17 = true := fok_addr _ _ HO.out
  obtain ⟨G, hGe⟩ : ∃ G, G = sixL s 8 := ⟨_, rfl⟩
  rw [← hGe] at hgg hzz HF6 HO HG HZ HGZ hfg HQ
  have HGE := Lib.hid hGe
  clear hGe
  have n4l := wd_lt s 4 (by omega)
  have HN4 : Hid (∀ W, Calls Tryz.prog 88 #[.string ((Str s).extract 4 6)] W fun x w' => x = .returned (.int .u64 (wd s 4)) ∧ w' = W) := Lib.hid fun W => rnum3 s hs 4 6 W
  have v4 : IntKind.i64.wrap (wd s 4 : Int) = (wd s 4 : Int) := by simp only [IntKind.wrap_i64]; omega
  have hi6 : (6 : Int) ≤ (s.length : Int) := by omega
  obtain ⟨n4, hn4⟩ : ∃ n, n = wd s 4 := ⟨_, rfl⟩
  rw [← hn4] at HN4 v4 n4l HQ
  have HNE4 := Lib.hid hn4
  clear hn4
  have i25 : (25 : Int) < (s.length : Int) := by omega
  have i24 : (24 : Int) < (s.length : Int) := by omega
  have hn25 : 25 < s.length := by omega
  have hn24 : 24 < s.length := by omega
  have e25 := Str_at s 25 (by rw [Str_size]; exact hn25)
  have e24 := Str_at s 24 (by rw [Str_size]; exact hn24)
  have b25l := by8_lt s 25
  have b24l := by8_lt s 24
  obtain ⟨b25, hb25⟩ : ∃ b, b = by8 s 25 := ⟨_, rfl⟩
  obtain ⟨b8, hb8⟩ : ∃ b, b = by8 s 24 := ⟨_, rfl⟩
  rw [← hb25] at e25 b25l
  rw [← hb8] at e24 b24l
  have HB25 := Lib.hid hb25
  have HB8 := Lib.hid hb8
  clear hb25 hb8
  have v25 : IntKind.i64.wrap (b25 : Int) = (b25 : Int) := by simp only [IntKind.wrap_i64]; omega
  obtain ⟨V1, hV1⟩ : ∃ v, v = valN n4 4096 := ⟨_, rfl⟩
  obtain ⟨V9, hV9⟩ : ∃ v, v = valN b25 16 := ⟨_, rfl⟩
  have HE1 := Lib.hid hV1
  have HE9 := Lib.hid hV9
  clear hV1 hV9
  have HV1 : Hid (∀ W, Calls Tryz.prog 38 #[.int .i64 n4] W fun x w' => x = .returned (.int .i64 V1) ∧ w' = W) := Lib.hid fun W => (rvalue16 n4 W).mono fun _ _ h => by
    rw [show clampN ((n4 : Nat) : Int) 65535 = n4 by unfold clampN; split <;> omega, ← HE1.out] at h
    exact ⟨h.1, h.2.symm⟩
  have HV9 : Hid (∀ W, Calls Tryz.prog 40 #[.int .i64 b25] W fun x w' => x = .returned (.int .i64 V9) ∧ w' = W) := Lib.hid fun W => (rvalue8 b25 W).mono fun _ _ h => by
    rw [show clampN ((b25 : Nat) : Int) 255 = b25 by unfold clampN; split <;> omega, ← HE9.out] at h
    exact ⟨h.1, h.2.symm⟩
  obtain ⟨c8, hc8⟩ : ∃ c, c = b8 / 8 := ⟨_, rfl⟩
  obtain ⟨d8, hd8⟩ : ∃ c, c = c8 % 2 := ⟨_, rfl⟩
  obtain ⟨r8, hr8⟩ : ∃ c, c = b8 % 8 := ⟨_, rfl⟩
  obtain ⟨qb, hqb⟩ : ∃ q, q = ((d8 : Int) == 1) := ⟨_, rfl⟩
  have t81 : (b8 : Int).tdiv 8 = (c8 : Int) := by rw [hc8]; rfl
  have t82 : (b8 : Int) / 8 = (c8 : Int) := by rw [hc8]; rfl
  have t83 : (c8 : Int).tmod 2 = (d8 : Int) := by rw [hd8]; rfl
  have t84 : (c8 : Int) % 2 = (d8 : Int) := by rw [hd8]; rfl
  have t85 : (b8 : Int).tmod 8 = (r8 : Int) := by rw [hr8]; rfl
  have t86 : (b8 : Int) % 8 = (r8 : Int) := by rw [hr8]; rfl
  have y81 : IntKind.u8.wrap (c8 : Int) = (c8 : Int) := by simp only [IntKind.wrap_u8]; omega
  have y82 : IntKind.u8.wrap (d8 : Int) = (d8 : Int) := by simp only [IntKind.wrap_u8]; omega
  have y83 : IntKind.u8.wrap (r8 : Int) = (r8 : Int) := by simp only [IntKind.wrap_u8]; omega
  have y84 : IntKind.i64.wrap (r8 : Int) = (r8 : Int) := by simp only [IntKind.wrap_i64]; omega
  have tqb : ((d8 : Int) == 1) = qb := hqb.symm
  have HQB := Lib.hid (show qb = decide (by8 s 24 / 8 % 2 = 1) by rw [hqb, hd8, hc8, HB8.out, Bool.eq_iff_iff]; simp; omega)
  have HR8 := Lib.hid (show r8 = by8 s 24 % 8 by rw [hr8, HB8.out])
  clear hc8 hd8 hr8 hqb
  have n26l := wd_lt s 26 (by omega)
  have HN26 : Hid (∀ W, Calls Tryz.prog 88 #[.string ((Str s).extract 26 28)] W fun x w' => x = .returned (.int .u64 (wd s 26)) ∧ w' = W) := Lib.hid fun W => rnum3 s hs 26 28 W
  have vn : IntKind.i64.wrap (wd s 26 : Int) = (wd s 26 : Int) := by simp only [IntKind.wrap_i64]; omega
  have hi28 : (28 : Int) ≤ (s.length : Int) := by omega
  have HSR : Hid (∀ W, Calls Tryz.prog 91 #[.string (Str s), .int .i64 28, .int .i64 (wd s 26 : Nat)] W fun x w' => SrcM W s 28 (wd s 26) x w') := Lib.hid fun W => rsources9s_any s hs 28 (wd s 26) (by omega) (by omega) W
  obtain ⟨n26, hn26⟩ : ∃ n, n = wd s 26 := ⟨_, rfl⟩
  rw [← hn26] at HN26 vn HSR n26l HQ
  have HN := Lib.hid hn26
  clear hn26
  rw [← HB25.out, ← HB8.out] at HQ
  rw [← HB8.out] at HQB HR8
  rw [← HQB.out, ← HR8.out, ← HE1.out, ← HE9.out] at HQ
  clear hk hl
  subst hK1
  go_enter Tryz.func55, Tryz.ntmps55
  go_upto_region 2 with (fail)
  generalize aggW ((w.alloc (.cells #[.bool false, .int .i64 0, .int .i64 0, .int .i64 0, .bool false, .int .u8 0, .int .u8 0, .int .u8 0, .int .u8 0, .int .u8 0, .int .u8 0, .int .u8 0, .int .u8 0, .int .u8 0, .int .u8 0, .int .u8 0, .int .u8 0, .int .u8 0, .int .u8 0, .int .u8 0, .int .u8 0, .bool false, .int .i64 0, .int .i64 0, .slice none 0 0, .slice none 0 0] 28)).alloc (.cells #[.bool false, .int .i64 0, .int .i64 0, .int .i64 0, .bool false, .int .u8 0, .int .u8 0, .int .u8 0, .int .u8 0, .int .u8 0, .int .u8 0, .int .u8 0, .int .u8 0, .int .u8 0, .int .u8 0, .int .u8 0, .int .u8 0, .int .u8 0, .int .u8 0, .int .u8 0, .int .u8 0, .bool false, .int .i64 0, .int .i64 0, .slice none 0 0, .slice none 0 0] 28)) (w.heap.size + 1) _ = W at H0 ⊢
  generalize w.heap.size + 1 = m at H0 ⊢
  clear hbk hff hfm
  obtain ⟨k1, k2, k3, k4, k5, k6, k7, k8, k9, ka, kb, kc, kf, kg, kh⟩ := H0.out.c
  try simp only at k1 k2 k3 k4 k5 k8 k9 ka kb kc kh
  go_upto_region 7 with (go_at_call 90; (with_reducible refine (HF6.out _).mono ?_); rintro x w2 ⟨rfl, hb2⟩; have H1 := Lib.hid (H0.out.below hb2); clear hb2 k1 k2 k3 k4 k5 k6 k7 k8 k9 ka kb kc kf kg kh; obtain ⟨k1, k2, k3, k4, k5, k6, k7, k8, k9, ka, kb, kc, kf, kg, kh⟩ := H1.out.c; try simp only at k1 k2 k3 k4 k5 k8 k9 ka kb kc kh)
  have H2 := Lib.hid (H1.out.grp G HO.out)
  try simp only at H2
  generalize aggO w2 m 4 _ = W2 at H2 ⊢
  clear k1 k2 k3 k4 k5 k6 k7 k8 k9 ka kb kc kf kg kh
  obtain ⟨k1, k2, k3, k4, k5, k6, k7, k8, k9, ka, kb, kc, kf, kg, kh⟩ := H2.out.c
  try simp only at k1 k2 k3 k4 k5 k8 k9 ka kb kc kh
  have HZZ := Lib.hid hzz
  have HGG := Lib.hid (show ¬ (grp9 G = false ∧ zer9 G = false) by rw [hzz]; simp)
  rw [hgg] at HG
  rw [hzz] at HZ
  clear hgg hzz
  go_upto_region 12 with (first | (go_at_call 34; (with_reducible refine (HG.out _).mono ?_); rintro x w3 ⟨rfl, hb3⟩; have H3 := Lib.hid (H2.out.below hb3); clear hb3 k1 k2 k3 k4 k5 k6 k7 k8 k9 ka kb kc kf kg kh; obtain ⟨k1, k2, k3, k4, k5, k6, k7, k8, k9, ka, kb, kc, kf, kg, kh⟩ := H3.out.c; try simp only at k1 k2 k3 k4 k5 k8 k9 ka kb kc kh) | (go_at_call 37; (with_reducible refine (HZ.out _).mono ?_); rintro x w4 ⟨rfl, hb4⟩; have H4 := Lib.hid (H3.out.below hb4); clear hb4 k1 k2 k3 k4 k5 k6 k7 k8 k9 ka kb kc kf kg kh; obtain ⟨k1, k2, k3, k4, k5, k6, k7, k8, k9, ka, kb, kc, kf, kg, kh⟩ := H4.out.c; try simp only at k1 k2 k3 k4 k5 k8 k9 ka kb kc kh) | (go_at_call 88; (with_reducible refine (HN4.out _).mono ?_); rintro x w5 ⟨rfl, hw5⟩; subst hw5))
  have H6 := Lib.hid (H4.out.set 3 (.int .i64 (n4 : Nat)) (tkC_resp _ _ _ _) HO.out (AdsT.nil _) (RcT.nil _))
  simp only at H6
  generalize World.setCell _ ⟨m, 3, none⟩ _ = W6 at H6 ⊢
  clear k1 k2 k3 k4 k5 k6 k7 k8 k9 ka kb kc kf kg kh
  obtain ⟨k1, k2, k3, k4, k5, k6, k7, k8, k9, ka, kb, kc, kf, kg, kh⟩ := H6.out.c
  try simp only at k1 k2 k3 k4 k5 k8 k9 ka kb kc kh
  go_upto_region 14 with (fail)
  refine wp_region_held_drew (S := fun _ => True) (by kernel_rfl) (trivial) (fun hHeld => ?_)
  have Hs := Lib.hid (H6.out.below (show Below _ _ (World.drew _) from ⟨rfl, rfl, rfl, Nat.le_refl _, fun _ _ => rfl⟩))
  generalize World.drew _ = Wd at Hs hHeld ⊢
  clear k1 k2 k3 k4 k5 k6 k7 k8 k9 ka kb kc kf kg kh
  obtain ⟨k1, k2, k3, k4, k5, k6, k7, k8, k9, ka, kb, kc, kf, kg, kh⟩ := Hs.out.c
  try simp only at k1 k2 k3 k4 k5 k8 k9 ka kb kc kh
  refine wpAnyH_take (i := 0) (oi := { dst := some 63, op := _, type := _, pos := _, after := _, guard := _ }) (v := ?v141) rfl (by kernel_rfl) (by kernel_rfl) (by kernel_rfl) (fun _ _ _ h => h) (Or.inl ⟨by rfl, ?y141⟩) (by assumption) ?r141
  case y141 => (intro w hSw; go_simp; try with_reducible rfl)
  try simp only [Act.put, List.setIfInBounds_toArray, List.set_cons_zero, List.set_cons_succ]
  refine wpAnyH_take (i := 3) (oi := { dst := some 66, op := _, type := _, pos := _, after := _, guard := _ }) (v := ?v142) rfl (by kernel_rfl) (by kernel_rfl) (by kernel_rfl) (fun _ _ _ h => h) (Or.inl ⟨by rfl, ?y142⟩) (by assumption) ?r142
  case y142 => (intro w hSw; go_simp; try with_reducible rfl)
  try simp only [Act.put, List.setIfInBounds_toArray, List.set_cons_zero, List.set_cons_succ]
  refine wpAnyH_take (i := 4) (oi := { dst := some 67, op := _, type := _, pos := _, after := _, guard := _ }) (v := ?v143) rfl (by kernel_rfl) (by kernel_rfl) (by kernel_rfl) (fun _ _ _ h => h) (Or.inl ⟨by rfl, ?y143⟩) (by assumption) ?r143
  case y143 => (intro w hSw; go_simp; try with_reducible rfl)
  try simp only [Act.put, List.setIfInBounds_toArray, List.set_cons_zero, List.set_cons_succ]
  refine wpAnyH_take (i := 5) (oi := { dst := some 68, op := _, type := _, pos := _, after := _, guard := _ }) (v := ?v144) rfl (by kernel_rfl) (by kernel_rfl) (by kernel_rfl) (fun _ _ _ h => h) (Or.inl ⟨by rfl, ?y144⟩) (by assumption) ?r144
  case y144 => (intro w hSw; go_simp; try with_reducible rfl)
  try simp only [Act.put, List.setIfInBounds_toArray, List.set_cons_zero, List.set_cons_succ]
  refine wpAnyH_ready (rs := [1]) (by kernel_rfl) (by simp) (AllReadyH.cons (o := _) rfl (fun K hK => ?_) AllReadyH.nil)
  go_simp
  refine hK.out _ _ (trivial) (fun hHeld => ?_)
  clear hK K
  try simp only [Act.put, List.setIfInBounds_toArray, List.set_cons_zero, List.set_cons_succ]
  refine wpAnyH_take (i := 7) (oi := { dst := some 70, op := _, type := _, pos := _, after := _, guard := _ }) (v := ?v145) rfl (by kernel_rfl) (by kernel_rfl) (by kernel_rfl) (fun _ _ _ h => h) (Or.inl ⟨by rfl, ?y145⟩) (by assumption) ?r145
  case y145 => (intro w hSw; go_simp; try with_reducible rfl)
  try simp only [Act.put, List.setIfInBounds_toArray, List.set_cons_zero, List.set_cons_succ]
  refine wpAnyH_ready (rs := [2]) (by kernel_rfl) (by simp) (AllReadyH.cons (o := _) rfl (fun K hK => ?_) AllReadyH.nil)
  go_simp
  (go_at_call 38; (with_reducible refine (HV1.out _).mono ?_); rintro x w8 ⟨rfl, hw8⟩; subst hw8)
  try go_wp2_with fail
  refine hK.out _ _ (trivial) (fun hHeld => ?_)
  clear hK K
  try simp only [Act.put, List.setIfInBounds_toArray, List.set_cons_zero, List.set_cons_succ]
  refine wpAnyH_ready (rs := [6]) (by kernel_rfl) (by simp) (AllReadyH.cons (o := _) rfl (fun K hK => ?_) AllReadyH.nil)
  go_simp
  (go_at_call 40; (with_reducible refine (HV9.out _).mono ?_); rintro x w8 ⟨rfl, hw8⟩; subst hw8)
  try go_wp2_with fail
  refine hK.out _ _ (trivial) (fun hHeld => ?_)
  clear hK K
  try simp only [Act.put, List.setIfInBounds_toArray, List.set_cons_zero, List.set_cons_succ]
  refine wpAnyH_ready (rs := [8]) (by kernel_rfl) (by simp) (AllReadyH.cons (o := _) rfl (fun K hK => ?_) AllReadyH.nil)
  go_simp
  refine hK.out _ _ (trivial) (fun hHeld => ?_)
  clear hK K
  try simp only [Act.put, List.setIfInBounds_toArray, List.set_cons_zero, List.set_cons_succ]
  have Ha := Lib.hid (Hs.out.set 1 (.int .i64 2) (tkC_ver _ _ _ _) HO.out (AdsT.nil _) (RcT.nil _))
  simp only at Ha
  generalize World.setCell _ ⟨m, 1, none⟩ _ = Wa at Ha ⊢
  clear k1 k2 k3 k4 k5 k6 k7 k8 k9 ka kb kc kf kg kh
  obtain ⟨k1, k2, k3, k4, k5, k6, k7, k8, k9, ka, kb, kc, kf, kg, kh⟩ := Ha.out.c
  try simp only at k1 k2 k3 k4 k5 k8 k9 ka kb kc kh
  refine wpAnyH_take (i := 9) (oi := { dst := some 71, op := _, type := _, pos := _, after := _, guard := _ }) (v := ?v146) rfl (by kernel_rfl) (by kernel_rfl) (by kernel_rfl) (fun _ _ _ h => h) (Or.inl ⟨by rfl, ?y146⟩) (by assumption) ?r146
  case y146 => (intro w hSw; go_simp; try with_reducible rfl)
  try simp only [Act.put, List.setIfInBounds_toArray, List.set_cons_zero, List.set_cons_succ]
  refine wpAnyH_ready (rs := [10]) (by kernel_rfl) (by simp) (AllReadyH.cons (o := _) rfl (fun K hK => ?_) AllReadyH.nil)
  go_simp
  refine hK.out _ _ (trivial) (fun hHeld => ?_)
  clear hK K
  try simp only [Act.put, List.setIfInBounds_toArray, List.set_cons_zero, List.set_cons_succ]
  have Hb := Lib.hid (Ha.out.set 3 (.int .i64 (V1 : Nat)) (tkC_resp _ _ _ _) HO.out (AdsT.nil _) (RcT.nil _))
  simp only at Hb
  generalize World.setCell _ ⟨m, 3, none⟩ _ = Wb at Hb ⊢
  clear k1 k2 k3 k4 k5 k6 k7 k8 k9 ka kb kc kf kg kh
  obtain ⟨k1, k2, k3, k4, k5, k6, k7, k8, k9, ka, kb, kc, kf, kg, kh⟩ := Hb.out.c
  try simp only at k1 k2 k3 k4 k5 k8 k9 ka kb kc kh
  refine wpAnyH_take (i := 11) (oi := { dst := some 72, op := _, type := _, pos := _, after := _, guard := _ }) (v := ?v147) rfl (by kernel_rfl) (by kernel_rfl) (by kernel_rfl) (fun _ _ _ h => h) (Or.inl ⟨by rfl, ?y147⟩) (by assumption) ?r147
  case y147 => (intro w hSw; go_simp; try with_reducible rfl)
  try simp only [Act.put, List.setIfInBounds_toArray, List.set_cons_zero, List.set_cons_succ]
  refine wpAnyH_ready (rs := [12]) (by kernel_rfl) (by simp) (AllReadyH.cons (o := _) rfl (fun K hK => ?_) AllReadyH.nil)
  go_simp
  refine hK.out _ _ (trivial) (fun hHeld => ?_)
  clear hK K
  try simp only [Act.put, List.setIfInBounds_toArray, List.set_cons_zero, List.set_cons_succ]
  have Hc := Lib.hid (Hb.out.set 23 (.int .i64 (V9 : Nat)) (tkC_every _ _ _ HO.out _) HO.out (AdsT.nil _) (RcT.nil _))
  simp only at Hc
  generalize World.setCell _ ⟨m, 23, none⟩ _ = Wc at Hc ⊢
  clear k1 k2 k3 k4 k5 k6 k7 k8 k9 ka kb kc kf kg kh
  obtain ⟨k1, k2, k3, k4, k5, k6, k7, k8, k9, ka, kb, kc, kf, kg, kh⟩ := Hc.out.c
  try simp only at k1 k2 k3 k4 k5 k8 k9 ka kb kc kh
  refine wpAnyH_done (by kernel_rfl) ?_ _
  go_upto_region 15 with (fail)
  refine wp_region_held_drew (S := fun _ => True) (by kernel_rfl) (trivial) (fun hHeld => ?_)
  have Ht := Lib.hid (Hc.out.below (show Below _ _ (World.drew _) from ⟨rfl, rfl, rfl, Nat.le_refl _, fun _ _ => rfl⟩))
  generalize World.drew _ = Wg at Ht hHeld ⊢
  clear k1 k2 k3 k4 k5 k6 k7 k8 k9 ka kb kc kf kg kh
  obtain ⟨k1, k2, k3, k4, k5, k6, k7, k8, k9, ka, kb, kc, kf, kg, kh⟩ := Ht.out.c
  try simp only at k1 k2 k3 k4 k5 k8 k9 ka kb kc kh
  refine wpAnyH_take (i := 0) (oi := { dst := some 73, op := _, type := _, pos := _, after := _, guard := _ }) (v := ?v171) rfl (by kernel_rfl) (by kernel_rfl) (by kernel_rfl) (fun _ _ _ h => h) (Or.inl ⟨by rfl, ?y171⟩) (by assumption) ?r171
  case y171 => (intro w hSw; go_simp; try with_reducible rfl)
  try simp only [Act.put, List.setIfInBounds_toArray, List.set_cons_zero, List.set_cons_succ]
  refine wpAnyH_take (i := 1) (oi := { dst := some 74, op := _, type := _, pos := _, after := _, guard := _ }) (v := ?v172) rfl (by kernel_rfl) (by kernel_rfl) (by kernel_rfl) (fun _ _ _ h => h) (Or.inl ⟨by rfl, ?y172⟩) (by assumption) ?r172
  case y172 => (intro w hSw; go_simp; try with_reducible rfl)
  try simp only [Act.put, List.setIfInBounds_toArray, List.set_cons_zero, List.set_cons_succ]
  refine wpAnyH_take (i := 2) (oi := { dst := some 75, op := _, type := _, pos := _, after := _, guard := _ }) (v := ?v173) rfl (by kernel_rfl) (by kernel_rfl) (by kernel_rfl) (fun _ _ _ h => h) (Or.inl ⟨by rfl, ?y173⟩) (by assumption) ?r173
  case y173 => (intro w hSw; go_simp; try with_reducible rfl)
  try simp only [Act.put, List.setIfInBounds_toArray, List.set_cons_zero, List.set_cons_succ]
  refine wpAnyH_take (i := 3) (oi := { dst := some 76, op := _, type := _, pos := _, after := _, guard := _ }) (v := ?v174) rfl (by kernel_rfl) (by kernel_rfl) (by kernel_rfl) (fun _ _ _ h => h) (Or.inl ⟨by rfl, ?y174⟩) (by assumption) ?r174
  case y174 => (intro w hSw; go_simp; try with_reducible rfl)
  try simp only [Act.put, List.setIfInBounds_toArray, List.set_cons_zero, List.set_cons_succ]
  refine wpAnyH_take (i := 4) (oi := { dst := some 77, op := _, type := _, pos := _, after := _, guard := _ }) (v := ?v175) rfl (by kernel_rfl) (by kernel_rfl) (by kernel_rfl) (fun _ _ _ h => h) (Or.inl ⟨by rfl, ?y175⟩) (by assumption) ?r175
  case y175 => (intro w hSw; go_simp; try with_reducible rfl)
  try simp only [Act.put, List.setIfInBounds_toArray, List.set_cons_zero, List.set_cons_succ]
  refine wpAnyH_take (i := 5) (oi := { dst := some 78, op := _, type := _, pos := _, after := _, guard := _ }) (v := ?v176) rfl (by kernel_rfl) (by kernel_rfl) (by kernel_rfl) (fun _ _ _ h => h) (Or.inl ⟨by rfl, ?y176⟩) (by assumption) ?r176
  case y176 => (intro w hSw; go_simp; try with_reducible rfl)
  try simp only [Act.put, List.setIfInBounds_toArray, List.set_cons_zero, List.set_cons_succ]
  refine wpAnyH_take (i := 6) (oi := { dst := some 79, op := _, type := _, pos := _, after := _, guard := _ }) (v := ?v177) rfl (by kernel_rfl) (by kernel_rfl) (by kernel_rfl) (fun _ _ _ h => h) (Or.inl ⟨by rfl, ?y177⟩) (by assumption) ?r177
  case y177 => (intro w hSw; go_simp; try with_reducible rfl)
  try simp only [Act.put, List.setIfInBounds_toArray, List.set_cons_zero, List.set_cons_succ]
  refine wpAnyH_take (i := 7) (oi := { dst := some 80, op := _, type := _, pos := _, after := _, guard := _ }) (v := ?v178) rfl (by kernel_rfl) (by kernel_rfl) (by kernel_rfl) (fun _ _ _ h => h) (Or.inl ⟨by rfl, ?y178⟩) (by assumption) ?r178
  case y178 => (intro w hSw; go_simp; try with_reducible rfl)
  try simp only [Act.put, List.setIfInBounds_toArray, List.set_cons_zero, List.set_cons_succ]
  refine wpAnyH_take (i := 8) (oi := { dst := some 81, op := _, type := _, pos := _, after := _, guard := _ }) (v := ?v179) rfl (by kernel_rfl) (by kernel_rfl) (by kernel_rfl) (fun _ _ _ h => h) (Or.inl ⟨by rfl, ?y179⟩) (by assumption) ?r179
  case y179 => (intro w hSw; go_simp; try with_reducible rfl)
  try simp only [Act.put, List.setIfInBounds_toArray, List.set_cons_zero, List.set_cons_succ]
  refine wpAnyH_take (i := 9) (oi := { dst := some 82, op := _, type := _, pos := _, after := _, guard := _ }) (v := ?v180) rfl (by kernel_rfl) (by kernel_rfl) (by kernel_rfl) (fun _ _ _ h => h) (Or.inl ⟨by rfl, ?y180⟩) (by assumption) ?r180
  case y180 => (intro w hSw; go_simp; try with_reducible rfl)
  try simp only [Act.put, List.setIfInBounds_toArray, List.set_cons_zero, List.set_cons_succ]
  refine wpAnyH_ready (rs := [10]) (by kernel_rfl) (by simp) (AllReadyH.cons (o := _) rfl (fun K hK => ?_) AllReadyH.nil)
  go_simp
  refine hK.out _ _ (trivial) (fun hHeld => ?_)
  clear hK K
  try simp only [Act.put, List.setIfInBounds_toArray, List.set_cons_zero, List.set_cons_succ]
  have Hd := Lib.hid (Ht.out.set 21 (.bool qb) (tkC_quiet _ _ _ HO.out _) HO.out (AdsT.nil _) (RcT.nil _))
  simp only at Hd
  generalize World.setCell _ ⟨m, 21, none⟩ _ = We at Hd ⊢
  clear k1 k2 k3 k4 k5 k6 k7 k8 k9 ka kb kc kf kg kh
  obtain ⟨k1, k2, k3, k4, k5, k6, k7, k8, k9, ka, kb, kc, kf, kg, kh⟩ := Hd.out.c
  try simp only at k1 k2 k3 k4 k5 k8 k9 ka kb kc kh
  refine wpAnyH_take (i := 11) (oi := { dst := some 83, op := _, type := _, pos := _, after := _, guard := _ }) (v := ?v181) rfl (by kernel_rfl) (by kernel_rfl) (by kernel_rfl) (fun _ _ _ h => h) (Or.inl ⟨by rfl, ?y181⟩) (by assumption) ?r181
  case y181 => (intro w hSw; go_simp; try with_reducible rfl)
  try simp only [Act.put, List.setIfInBounds_toArray, List.set_cons_zero, List.set_cons_succ]
  refine wpAnyH_ready (rs := [12]) (by kernel_rfl) (by simp) (AllReadyH.cons (o := _) rfl (fun K hK => ?_) AllReadyH.nil)
  go_simp
  refine hK.out _ _ (trivial) (fun hHeld => ?_)
  clear hK K
  try simp only [Act.put, List.setIfInBounds_toArray, List.set_cons_zero, List.set_cons_succ]
  have He := Lib.hid (Hd.out.set 22 (.int .i64 (r8 : Nat)) (tkC_rob _ _ _ HO.out _) HO.out (AdsT.nil _) (RcT.nil _))
  simp only at He
  generalize World.setCell _ ⟨m, 22, none⟩ _ = Wf at He ⊢
  clear k1 k2 k3 k4 k5 k6 k7 k8 k9 ka kb kc kf kg kh
  obtain ⟨k1, k2, k3, k4, k5, k6, k7, k8, k9, ka, kb, kc, kf, kg, kh⟩ := He.out.c
  try simp only at k1 k2 k3 k4 k5 k8 k9 ka kb kc kh
  refine wpAnyH_done (by kernel_rfl) ?_ _
  by_cases n0 : 0 < n26
  · have tn : (0 : Int) < (n26 : Int) := by omega
    have N0 := Lib.hid n0
    go_upto_region 18 with (first | (go_at_call 88; (with_reducible refine (HN26.out _).mono ?_); rintro x w9 ⟨rfl, hw9⟩; subst hw9) | (go_at_call 37; (with_reducible refine (HZ.out _).mono ?_); rintro x wz ⟨rfl, hbz⟩; have Hf := Lib.hid (He.out.below hbz); clear hbz k1 k2 k3 k4 k5 k6 k7 k8 k9 ka kb kc kf kg kh; obtain ⟨k1, k2, k3, k4, k5, k6, k7, k8, k9, ka, kb, kc, kf, kg, kh⟩ := Hf.out.c; try simp only at k1 k2 k3 k4 k5 k8 k9 ka kb kc kh))
    repeat (first | go_values | go_skip | go_guarded | go_step | go_upon | go_in)
    obtain ⟨qr1, qr2⟩ := Hf.out.ret (s := s) (e := 2) (by rw [HQ.out, if_neg HGG.out, if_pos ⟨HZZ.out, N0.out⟩]) (fun h => absurd h (by omega))
    exact bodyPost_ret (results_cell2 Tryz.results55 rfl (ld_some qr1 (ldr_tk _ _ _))) rfl qr2
  · have tn : ¬ (0 : Int) < (n26 : Int) := by omega
    have N0 := Lib.hid n0
    clear n0
    go_upto_region 20 with (first | (go_at_call 88; (with_reducible refine (HN26.out _).mono ?_); rintro x w9 ⟨rfl, hw9⟩; subst hw9) | (go_at_call 37; (with_reducible refine (HZ.out _).mono ?_); rintro x wz ⟨rfl, hbz⟩; have Hf := Lib.hid (He.out.below hbz); clear hbz k1 k2 k3 k4 k5 k6 k7 k8 k9 ka kb kc kf kg kh; obtain ⟨k1, k2, k3, k4, k5, k6, k7, k8, k9, ka, kb, kc, kf, kg, kh⟩ := Hf.out.c; try simp only at k1 k2 k3 k4 k5 k8 k9 ka kb kc kh) | (go_at_call 91; (with_reducible refine (HSR.out _).mono ?_); rintro x wh ⟨v5, l5, rfl, hb5, ha5, hs5⟩; obtain ⟨pp5, cc5, ev5, hl5, hc5⟩ := ha5.1.len; subst ev5; have Hh := Lib.hid (Hf.out.below hb5); have HA5 := Lib.hid (show AdsT wh (.slice pp5 l5.length cc5) l5 from ha5); have HS5 := Lib.hid hs5; clear hb5 ha5 hs5 k1 k2 k3 k4 k5 k6 k7 k8 k9 ka kb kc kf kg kh; obtain ⟨k1, k2, k3, k4, k5, k6, k7, k8, k9, ka, kb, kc, kf, kg, kh⟩ := Hh.out.c; try simp only at k1 k2 k3 k4 k5 k8 k9 ka kb kc kh))
    go_upto_region 21 with (fail)
    have Hi := Lib.hid (Hh.out.set 24 (.slice pp5 l5.length cc5) (tkC_src _ _ _ HO.out (.slice pp5 l5.length cc5) l5) HO.out (by simpa using HA5.out) (RcT.nil _))
    simp only at Hi
    clear k1 k2 k3 k4 k5 k6 k7 k8 k9 ka kb kc kf kg kh
    generalize World.setCell _ ⟨m, 24, none⟩ _ = Wi at Hi ⊢
    obtain ⟨k1, k2, k3, k4, k5, k6, k7, k8, k9, ka, kb, kc, kf, kg, kh⟩ := Hi.out.c
    try simp only at k1 k2 k3 k4 k5 k8 k9 ka kb kc kh
    repeat (first | go_values | go_skip | go_guarded | go_step | go_upon | go_in)
    obtain ⟨qr1, qr2⟩ := Hi.out.ret (s := s) (e := srcsE9 s 28 n26) (by rw [HQ.out, if_neg HGG.out, if_neg (fun h => N0.out h.2)]; exact snd_ite9 _ _ _) (fun h => by rw [HQ.out, if_neg HGG.out, if_neg (fun h => N0.out h.2), if_neg (by rw [h]; simp), HS5.out h])
    exact bodyPost_ret (results_cell2 Tryz.results55 rfl (ld_some qr1 (ldr_tk _ _ _))) rfl qr2

set_option maxRecDepth 100000 in
set_option maxHeartbeats 4000000 in
theorem rone_28n (s : List UInt8) (hs : s.length ≤ 100000) (h0 : 130 ≤ by8 s 0 ∧ by8 s 0 ≤ 132) (hk : by8 s 0 = 130) (hl : 28 ≤ s.length) (hgg : grp9 (sixL s 8) = false) (hzz : zer9 (sixL s 8) = false) (w : World) :
    Calls Tryz.prog 55 #[.string (Str s)] w fun x w' => OneP w s x w' := by
  have hQ : one9 s = if grp9 (sixL s 8) = false ∧ zer9 (sixL s 8) = false then (zeroT, 2)
      else if zer9 (sixL s 8) = true ∧ 0 < wd s 26 then (zeroT, 2)
      else if srcsE9 s 28 (wd s 26) ≠ 0 then (zeroT, srcsE9 s 28 (wd s 26))
      else (⟨true, 2, 1, valN (wd s 4) 4096, sixL s 8, decide (by8 s 24 / 8 % 2 = 1), (by8 s 24 % 8 : Nat), valN (by8 s 25) 16, srcsL9 s 28 (wd s 26), []⟩, 0) := by
    unfold one9
    rw [if_neg (by omega), if_neg (by omega)]
    by_cases hg : grp9 (sixL s 8) = false ∧ zer9 (sixL s 8) = false
    · rw [if_pos ⟨hg.1, Or.inr hg.2⟩, if_pos hg]
    · rw [if_neg (fun h => hg ⟨h.1, h.2.resolve_left (fun h => h hk)⟩), if_neg hg, if_neg (by omega), if_neg (by omega)]
  have HQ := Lib.hid hQ
  clear hQ
  have d1 : (24 : Int) < (s.length : Int) := by omega
  have d2 : ¬ (s.length : Int) < 28 := by omega
  have d3 : ((s.length : Int) == 24) = false := by rw [beq_eq_false_iff_ne]; omega
  have hd : ¬ (s.length : Int) < 24 := by omega
  have hsz := Str_size s
  have i0 : (0 : Int) < (s.length : Int) := by omega
  have hn0 : 0 < s.length := by omega
  have e0 := Str_at s 0 (by rw [Str_size]; exact hn0)
  have v0 : IntKind.i64.wrap (by8 s 0 : Int) = (by8 s 0 : Int) := by simp only [IntKind.wrap_i64]; omega
  obtain ⟨K, hK⟩ : ∃ K : Int, K = (by8 s 0 : Int) - 129 := ⟨_, rfl⟩
  have vK : IntKind.i64.wrap ((by8 s 0 : Int) - 129) = K := by simp only [IntKind.wrap_i64]; omega
  have kk : (K == 1) = true := by rw [beq_iff_eq]; omega
  have k1g : ¬ (1 : Int) < K := by omega
  have hK1 : K = 1 := by omega
  have HKK := Lib.hid hK
  have HB0 := Lib.hid h0
  clear hK h0
  generalize by8 s 0 = b0 at *
  have hbk := bldr_tk6 K
  have hff : fok (tkC ⟨true, 1, K, 0, zeroA, false, 0, 0, [], []⟩ (.slice none 0 0) (.slice none 0 0)).toArray 26 = true := fok_tk zeroA_ok rfl rfl
  have hfm := QO.free0 w
  have H0 := Lib.hid (QO.start w K)
  have HF6 : Hid (∀ W, Calls Tryz.prog 90 #[.string (Str s), .int .i64 8] W fun x w' => x = .returned (.agg (adC (sixL s 8)).toArray) ∧ Below W.heap.size W w') := Lib.hid fun W => rsix_any s hs 8 (by omega) W
  have HO := Lib.hid (show adOk (sixL s 8) from sixL_ok s 8)
  have HG := Lib.hid (fun W => rgroup9_any (sixL s 8) HO.out W)
  have HZ := Lib.hid (fun W => rzero9_any (sixL s 8) HO.out W)
  have HGZ := Lib.hid (fun h : grp9 (sixL s 8) = true => grp9_zer h)
  have hfg : fok (adC (sixL s 8)).toArray 17 = true := fok_addr _ _ HO.out
  obtain ⟨G, hGe⟩ : ∃ G, G = sixL s 8 := ⟨_, rfl⟩
  rw [← hGe] at hgg hzz HF6 HO HG HZ HGZ hfg HQ
  have HGE := Lib.hid hGe
  clear hGe
  have n4l := wd_lt s 4 (by omega)
  have HN4 : Hid (∀ W, Calls Tryz.prog 88 #[.string ((Str s).extract 4 6)] W fun x w' => x = .returned (.int .u64 (wd s 4)) ∧ w' = W) := Lib.hid fun W => rnum3 s hs 4 6 W
  have v4 : IntKind.i64.wrap (wd s 4 : Int) = (wd s 4 : Int) := by simp only [IntKind.wrap_i64]; omega
  have hi6 : (6 : Int) ≤ (s.length : Int) := by omega
  obtain ⟨n4, hn4⟩ : ∃ n, n = wd s 4 := ⟨_, rfl⟩
  rw [← hn4] at HN4 v4 n4l HQ
  have HNE4 := Lib.hid hn4
  clear hn4
  have i25 : (25 : Int) < (s.length : Int) := by omega
  have i24 : (24 : Int) < (s.length : Int) := by omega
  have hn25 : 25 < s.length := by omega
  have hn24 : 24 < s.length := by omega
  have e25 := Str_at s 25 (by rw [Str_size]; exact hn25)
  have e24 := Str_at s 24 (by rw [Str_size]; exact hn24)
  have b25l := by8_lt s 25
  have b24l := by8_lt s 24
  obtain ⟨b25, hb25⟩ : ∃ b, b = by8 s 25 := ⟨_, rfl⟩
  obtain ⟨b8, hb8⟩ : ∃ b, b = by8 s 24 := ⟨_, rfl⟩
  rw [← hb25] at e25 b25l
  rw [← hb8] at e24 b24l
  have HB25 := Lib.hid hb25
  have HB8 := Lib.hid hb8
  clear hb25 hb8
  have v25 : IntKind.i64.wrap (b25 : Int) = (b25 : Int) := by simp only [IntKind.wrap_i64]; omega
  obtain ⟨V1, hV1⟩ : ∃ v, v = valN n4 4096 := ⟨_, rfl⟩
  obtain ⟨V9, hV9⟩ : ∃ v, v = valN b25 16 := ⟨_, rfl⟩
  have HE1 := Lib.hid hV1
  have HE9 := Lib.hid hV9
  clear hV1 hV9
  have HV1 : Hid (∀ W, Calls Tryz.prog 38 #[.int .i64 n4] W fun x w' => x = .returned (.int .i64 V1) ∧ w' = W) := Lib.hid fun W => (rvalue16 n4 W).mono fun _ _ h => by
    rw [show clampN ((n4 : Nat) : Int) 65535 = n4 by unfold clampN; split <;> omega, ← HE1.out] at h
    exact ⟨h.1, h.2.symm⟩
  have HV9 : Hid (∀ W, Calls Tryz.prog 40 #[.int .i64 b25] W fun x w' => x = .returned (.int .i64 V9) ∧ w' = W) := Lib.hid fun W => (rvalue8 b25 W).mono fun _ _ h => by
    rw [show clampN ((b25 : Nat) : Int) 255 = b25 by unfold clampN; split <;> omega, ← HE9.out] at h
    exact ⟨h.1, h.2.symm⟩
  obtain ⟨c8, hc8⟩ : ∃ c, c = b8 / 8 := ⟨_, rfl⟩
  obtain ⟨d8, hd8⟩ : ∃ c, c = c8 % 2 := ⟨_, rfl⟩
  obtain ⟨r8, hr8⟩ : ∃ c, c = b8 % 8 := ⟨_, rfl⟩
  obtain ⟨qb, hqb⟩ : ∃ q, q = ((d8 : Int) == 1) := ⟨_, rfl⟩
  have t81 : (b8 : Int).tdiv 8 = (c8 : Int) := by rw [hc8]; rfl
  have t82 : (b8 : Int) / 8 = (c8 : Int) := by rw [hc8]; rfl
  have t83 : (c8 : Int).tmod 2 = (d8 : Int) := by rw [hd8]; rfl
  have t84 : (c8 : Int) % 2 = (d8 : Int) := by rw [hd8]; rfl
  have t85 : (b8 : Int).tmod 8 = (r8 : Int) := by rw [hr8]; rfl
  have t86 : (b8 : Int) % 8 = (r8 : Int) := by rw [hr8]; rfl
  have y81 : IntKind.u8.wrap (c8 : Int) = (c8 : Int) := by simp only [IntKind.wrap_u8]; omega
  have y82 : IntKind.u8.wrap (d8 : Int) = (d8 : Int) := by simp only [IntKind.wrap_u8]; omega
  have y83 : IntKind.u8.wrap (r8 : Int) = (r8 : Int) := by simp only [IntKind.wrap_u8]; omega
  have y84 : IntKind.i64.wrap (r8 : Int) = (r8 : Int) := by simp only [IntKind.wrap_i64]; omega
  have tqb : ((d8 : Int) == 1) = qb := hqb.symm
  have HQB := Lib.hid (show qb = decide (by8 s 24 / 8 % 2 = 1) by rw [hqb, hd8, hc8, HB8.out, Bool.eq_iff_iff]; simp; omega)
  have HR8 := Lib.hid (show r8 = by8 s 24 % 8 by rw [hr8, HB8.out])
  clear hc8 hd8 hr8 hqb
  have n26l := wd_lt s 26 (by omega)
  have HN26 : Hid (∀ W, Calls Tryz.prog 88 #[.string ((Str s).extract 26 28)] W fun x w' => x = .returned (.int .u64 (wd s 26)) ∧ w' = W) := Lib.hid fun W => rnum3 s hs 26 28 W
  have vn : IntKind.i64.wrap (wd s 26 : Int) = (wd s 26 : Int) := by simp only [IntKind.wrap_i64]; omega
  have hi28 : (28 : Int) ≤ (s.length : Int) := by omega
  have HSR : Hid (∀ W, Calls Tryz.prog 91 #[.string (Str s), .int .i64 28, .int .i64 (wd s 26 : Nat)] W fun x w' => SrcM W s 28 (wd s 26) x w') := Lib.hid fun W => rsources9s_any s hs 28 (wd s 26) (by omega) (by omega) W
  obtain ⟨n26, hn26⟩ : ∃ n, n = wd s 26 := ⟨_, rfl⟩
  rw [← hn26] at HN26 vn HSR n26l HQ
  have HN := Lib.hid hn26
  clear hn26
  rw [← HB25.out, ← HB8.out] at HQ
  rw [← HB8.out] at HQB HR8
  rw [← HQB.out, ← HR8.out, ← HE1.out, ← HE9.out] at HQ
  clear hk hl
  subst hK1
  go_enter Tryz.func55, Tryz.ntmps55
  go_upto_region 2 with (fail)
  generalize aggW ((w.alloc (.cells #[.bool false, .int .i64 0, .int .i64 0, .int .i64 0, .bool false, .int .u8 0, .int .u8 0, .int .u8 0, .int .u8 0, .int .u8 0, .int .u8 0, .int .u8 0, .int .u8 0, .int .u8 0, .int .u8 0, .int .u8 0, .int .u8 0, .int .u8 0, .int .u8 0, .int .u8 0, .int .u8 0, .bool false, .int .i64 0, .int .i64 0, .slice none 0 0, .slice none 0 0] 28)).alloc (.cells #[.bool false, .int .i64 0, .int .i64 0, .int .i64 0, .bool false, .int .u8 0, .int .u8 0, .int .u8 0, .int .u8 0, .int .u8 0, .int .u8 0, .int .u8 0, .int .u8 0, .int .u8 0, .int .u8 0, .int .u8 0, .int .u8 0, .int .u8 0, .int .u8 0, .int .u8 0, .int .u8 0, .bool false, .int .i64 0, .int .i64 0, .slice none 0 0, .slice none 0 0] 28)) (w.heap.size + 1) _ = W at H0 ⊢
  generalize w.heap.size + 1 = m at H0 ⊢
  clear hbk hff hfm
  obtain ⟨k1, k2, k3, k4, k5, k6, k7, k8, k9, ka, kb, kc, kf, kg, kh⟩ := H0.out.c
  try simp only at k1 k2 k3 k4 k5 k8 k9 ka kb kc kh
  go_upto_region 7 with (go_at_call 90; (with_reducible refine (HF6.out _).mono ?_); rintro x w2 ⟨rfl, hb2⟩; have H1 := Lib.hid (H0.out.below hb2); clear hb2 k1 k2 k3 k4 k5 k6 k7 k8 k9 ka kb kc kf kg kh; obtain ⟨k1, k2, k3, k4, k5, k6, k7, k8, k9, ka, kb, kc, kf, kg, kh⟩ := H1.out.c; try simp only at k1 k2 k3 k4 k5 k8 k9 ka kb kc kh)
  have H2 := Lib.hid (H1.out.grp G HO.out)
  try simp only at H2
  generalize aggO w2 m 4 _ = W2 at H2 ⊢
  clear k1 k2 k3 k4 k5 k6 k7 k8 k9 ka kb kc kf kg kh
  obtain ⟨k1, k2, k3, k4, k5, k6, k7, k8, k9, ka, kb, kc, kf, kg, kh⟩ := H2.out.c
  try simp only at k1 k2 k3 k4 k5 k8 k9 ka kb kc kh
  have HGG := Lib.hid (And.intro hgg hzz)
  rw [hgg] at HG
  rw [hzz] at HZ
  clear hgg hzz
  go_upto_region 8 with (first | (go_at_call 34; (with_reducible refine (HG.out _).mono ?_); rintro x w3 ⟨rfl, hb3⟩; have H3 := Lib.hid (H2.out.below hb3); clear hb3 k1 k2 k3 k4 k5 k6 k7 k8 k9 ka kb kc kf kg kh; obtain ⟨k1, k2, k3, k4, k5, k6, k7, k8, k9, ka, kb, kc, kf, kg, kh⟩ := H3.out.c; try simp only at k1 k2 k3 k4 k5 k8 k9 ka kb kc kh) | (go_at_call 37; (with_reducible refine (HZ.out _).mono ?_); rintro x w4 ⟨rfl, hb4⟩; have H4 := Lib.hid (H3.out.below hb4); clear hb4 k1 k2 k3 k4 k5 k6 k7 k8 k9 ka kb kc kf kg kh; obtain ⟨k1, k2, k3, k4, k5, k6, k7, k8, k9, ka, kb, kc, kf, kg, kh⟩ := H4.out.c; try simp only at k1 k2 k3 k4 k5 k8 k9 ka kb kc kh))
  repeat (first | go_values | go_skip | go_guarded | go_step | go_upon | go_in)
  obtain ⟨qr1, qr2⟩ := H4.out.ret (s := s) (e := 2) (by rw [HQ.out, if_pos HGG.out]) (fun h => absurd h (by omega))
  exact bodyPost_ret (results_cell2 Tryz.results55 rfl (ld_some qr1 (ldr_tk _ _ _))) rfl qr2

theorem rone_any (s : List UInt8) (hs : s.length ≤ 100000) (h8 : 8 ≤ s.length) (h0 : 130 ≤ by8 s 0 ∧ by8 s 0 ≤ 132) (w : World) :
    Calls Tryz.prog 55 #[.string (Str s)] w fun x w' => OneP w s x w' := by
  by_cases h1 : s.length < 24
  · exact rone_short s hs h0 (by omega) h1 w
  by_cases hk : by8 s 0 = 130
  · by_cases h2 : s.length = 24
    · exact rone_24 s hs h0 hk h2 w
    by_cases h3 : s.length < 28
    · exact rone_mid s hs h0 hk (by omega) h3 w
    cases hg : grp9 (sixL s 8) with
    | true => exact rone_28g s hs h0 hk (by omega) hg w
    | false =>
      cases hz : zer9 (sixL s 8) with
      | true => exact rone_28z s hs h0 hk (by omega) hg hz w
      | false => exact rone_28n s hs h0 hk (by omega) hg hz w
  · exact rone_rep s hs h0 hk (by omega) w
end Go.Proofs.YtgpccgcppbdlpaaGreat
