/-
  The document's own query of layer 8.
-/
import Derived.Test.YtchbkamjmkfikaaMg20
import Derived.Test.YtchbkamjmkfikaaMg21
namespace Go.Proofs.Ytchbkamjmkfikaa
open Go.RowKit
set_option linter.unusedVariables false
set_option linter.unusedSimpArgs false
attribute [local go_sem ↓] ld_addr st_addr bld_addr ld_tk st_tk bld_tk
attribute [local go_sem] ldr_addr str_addr ldr_tk str_tk

/-- The result's cell alone; beside it a block for a talk, one for an address. -/
def QR (w W : World) : Prop := ObjAt W w.heap.size #[.bool false, .int .i64 0, .int .i64 0, .int .i64 0, .bool false, .int .u8 0, .int .u8 0, .int .u8 0, .int .u8 0, .int .u8 0, .int .u8 0, .int .u8 0, .int .u8 0, .int .u8 0, .int .u8 0, .int .u8 0, .int .u8 0, .int .u8 0, .int .u8 0, .int .u8 0, .int .u8 0, .bool false, .int .i64 0, .int .i64 0, .slice none 0 0, .slice none 0 0] 29 ∧ Below w.heap.size w W
theorem QR.start (w : World) : QR w (w.alloc (.cells #[.bool false, .int .i64 0, .int .i64 0, .int .i64 0, .bool false, .int .u8 0, .int .u8 0, .int .u8 0, .int .u8 0, .int .u8 0, .int .u8 0, .int .u8 0, .int .u8 0, .int .u8 0, .int .u8 0, .int .u8 0, .int .u8 0, .int .u8 0, .int .u8 0, .int .u8 0, .int .u8 0, .bool false, .int .i64 0, .int .i64 0, .slice none 0 0, .slice none 0 0] 29)) := ⟨ObjAt.made w _ _, (Below.refl _ _).alloc (Nat.le_refl _) _⟩
theorem QR.startd (w : World) : QR w (w.alloc (.cells #[.bool false, .int .i64 0, .int .i64 0, .int .i64 0, .bool false, .int .u8 0, .int .u8 0, .int .u8 0, .int .u8 0, .int .u8 0, .int .u8 0, .int .u8 0, .int .u8 0, .int .u8 0, .int .u8 0, .int .u8 0, .int .u8 0, .int .u8 0, .int .u8 0, .int .u8 0, .int .u8 0, .bool false, .int .i64 0, .int .i64 0, .slice none 0 0, .slice none 0 0] 29)).drew := ⟨(ObjAt.made w _ _).drew, ((Below.refl _ _).alloc (Nat.le_refl _) _).trans ⟨rfl, rfl, rfl, Nat.le_refl _, fun _ _ => rfl⟩⟩
theorem QR.below {w W W' : World} (h : QR w W) (hb : Below W.heap.size W W') : QR w W' := ⟨h.1.below hb h.1.lt, bstep h.2 hb⟩
def QA (w W : World) (m : Nat) : Prop := QR w W ∧ ObjAt W m #[.bool false, .int .i64 0, .int .i64 0, .int .i64 0, .bool false, .int .u8 0, .int .u8 0, .int .u8 0, .int .u8 0, .int .u8 0, .int .u8 0, .int .u8 0, .int .u8 0, .int .u8 0, .int .u8 0, .int .u8 0, .int .u8 0, .int .u8 0, .int .u8 0, .int .u8 0, .int .u8 0, .bool false, .int .i64 0, .int .i64 0, .slice none 0 0, .slice none 0 0] 29 ∧ w.heap.size < m
def QZ (w W : World) (p : Nat) : Prop := QR w W ∧ ObjAt W p #[.bool false, .int .u8 0, .int .u8 0, .int .u8 0, .int .u8 0, .int .u8 0, .int .u8 0, .int .u8 0, .int .u8 0, .int .u8 0, .int .u8 0, .int .u8 0, .int .u8 0, .int .u8 0, .int .u8 0, .int .u8 0, .int .u8 0] 25 ∧ w.heap.size < p
def QAZ (w W : World) (m p : Nat) : Prop := QR w W ∧ ObjAt W m #[.bool false, .int .i64 0, .int .i64 0, .int .i64 0, .bool false, .int .u8 0, .int .u8 0, .int .u8 0, .int .u8 0, .int .u8 0, .int .u8 0, .int .u8 0, .int .u8 0, .int .u8 0, .int .u8 0, .int .u8 0, .int .u8 0, .int .u8 0, .int .u8 0, .int .u8 0, .int .u8 0, .bool false, .int .i64 0, .int .i64 0, .slice none 0 0, .slice none 0 0] 29 ∧ ObjAt W p #[.bool false, .int .u8 0, .int .u8 0, .int .u8 0, .int .u8 0, .int .u8 0, .int .u8 0, .int .u8 0, .int .u8 0, .int .u8 0, .int .u8 0, .int .u8 0, .int .u8 0, .int .u8 0, .int .u8 0, .int .u8 0, .int .u8 0] 25 ∧ w.heap.size < m ∧ w.heap.size < p ∧ m ≠ p
theorem QA.below {w W W' : World} {m : Nat} (h : QA w W m) (hb : Below W.heap.size W W') : QA w W' m := ⟨h.1.below hb, h.2.1.below hb h.2.1.lt, h.2.2⟩
theorem QZ.below {w W W' : World} {p : Nat} (h : QZ w W p) (hb : Below W.heap.size W W') : QZ w W' p := ⟨h.1.below hb, h.2.1.below hb h.2.1.lt, h.2.2⟩
theorem QAZ.below {w W W' : World} {m p : Nat} (h : QAZ w W m p) (hb : Below W.heap.size W W') : QAZ w W' m p := ⟨h.1.below hb, h.2.1.below hb h.2.1.lt, h.2.2.1.below hb h.2.2.1.lt, h.2.2.2⟩
theorem QR.alloc {w W : World} (h : QR w W) (o : Obj) : QR w (W.alloc o) := h.below ((Below.refl _ _).alloc (Nat.le_refl _) _)
theorem QR.a {w W : World} (h : QR w W) : QA w (W.alloc (.cells #[.bool false, .int .i64 0, .int .i64 0, .int .i64 0, .bool false, .int .u8 0, .int .u8 0, .int .u8 0, .int .u8 0, .int .u8 0, .int .u8 0, .int .u8 0, .int .u8 0, .int .u8 0, .int .u8 0, .int .u8 0, .int .u8 0, .int .u8 0, .int .u8 0, .int .u8 0, .int .u8 0, .bool false, .int .i64 0, .int .i64 0, .slice none 0 0, .slice none 0 0] 29)) W.heap.size := ⟨h.alloc _, ObjAt.made W _ _, h.1.lt⟩
theorem QR.z {w W : World} (h : QR w W) : QZ w (W.alloc (.cells #[.bool false, .int .u8 0, .int .u8 0, .int .u8 0, .int .u8 0, .int .u8 0, .int .u8 0, .int .u8 0, .int .u8 0, .int .u8 0, .int .u8 0, .int .u8 0, .int .u8 0, .int .u8 0, .int .u8 0, .int .u8 0, .int .u8 0] 25)) W.heap.size := ⟨h.alloc _, ObjAt.made W _ _, h.1.lt⟩
theorem QA.z {w W : World} {m : Nat} (h : QA w W m) : QAZ w (W.alloc (.cells #[.bool false, .int .u8 0, .int .u8 0, .int .u8 0, .int .u8 0, .int .u8 0, .int .u8 0, .int .u8 0, .int .u8 0, .int .u8 0, .int .u8 0, .int .u8 0, .int .u8 0, .int .u8 0, .int .u8 0, .int .u8 0, .int .u8 0] 25)) m W.heap.size := by
  have := h.2.1.lt
  exact ⟨h.1.alloc _, h.2.1.alloc _, ObjAt.made W _ _, h.2.2, h.1.1.lt, by omega⟩
theorem QZ.a {w W : World} {p : Nat} (h : QZ w W p) : QAZ w (W.alloc (.cells #[.bool false, .int .i64 0, .int .i64 0, .int .i64 0, .bool false, .int .u8 0, .int .u8 0, .int .u8 0, .int .u8 0, .int .u8 0, .int .u8 0, .int .u8 0, .int .u8 0, .int .u8 0, .int .u8 0, .int .u8 0, .int .u8 0, .int .u8 0, .int .u8 0, .int .u8 0, .int .u8 0, .bool false, .int .i64 0, .int .i64 0, .slice none 0 0, .slice none 0 0] 29)) W.heap.size p := by
  have := h.2.1.lt
  exact ⟨h.1.alloc _, ObjAt.made W _ _, h.2.1.alloc _, h.1.1.lt, h.2.2, by omega⟩
theorem QAZ.freea {w W : World} {m p : Nat} (h : QAZ w W m p) : free? W m 0 26 = true := obj_free h.2.1 (by simp)
theorem QAZ.t0 {w W : World} {m p : Nat} (h : QAZ w W m p) (t : TK) (ho : adOk t.g) (hs : t.src = []) (hr : t.rcs = []) : QT w (aggW W m (tkC t (.slice none 0 0) (.slice none 0 0))) m t (.slice none 0 0) (.slice none 0 0) p #[.bool false, .int .u8 0, .int .u8 0, .int .u8 0, .int .u8 0, .int .u8 0, .int .u8 0, .int .u8 0, .int .u8 0, .int .u8 0, .int .u8 0, .int .u8 0, .int .u8 0, .int .u8 0, .int .u8 0, .int .u8 0, .int .u8 0] 25 := by
  obtain ⟨⟨h1, h2⟩, h3, h4, h5, h6, h7⟩ := h
  have hc := aggW_obj (L := (#[.bool false, .int .i64 0, .int .i64 0, .int .i64 0, .bool false, .int .u8 0, .int .u8 0, .int .u8 0, .int .u8 0, .int .u8 0, .int .u8 0, .int .u8 0, .int .u8 0, .int .u8 0, .int .u8 0, .int .u8 0, .int .u8 0, .int .u8 0, .int .u8 0, .int .u8 0, .int .u8 0, .bool false, .int .i64 0, .int .i64 0, .slice none 0 0, .slice none 0 0] : Array Value).toList) (cs := tkC t (.slice none 0 0) (.slice none 0 0)) (by simpa using h3) (by rw [tkC_length ho]; rfl) (tkC_one rfl rfl)
  exact ⟨aggW_other h1 _ (by omega), ⟨hc, ho⟩, aggW_below h2 (by omega) _, h5, by rw [hs]; exact AdsT.nil _, by rw [hr]; exact RcT.nil _, aggW_other h4 _ (Ne.symm h7), h6, h7⟩
theorem QT.freep {w W : World} {m p : Nat} {t : TK} {us ur : Value} (h : QT w W m t us ur p #[.bool false, .int .u8 0, .int .u8 0, .int .u8 0, .int .u8 0, .int .u8 0, .int .u8 0, .int .u8 0, .int .u8 0, .int .u8 0, .int .u8 0, .int .u8 0, .int .u8 0, .int .u8 0, .int .u8 0, .int .u8 0, .int .u8 0] 25) : free? W p 0 17 = true := obj_free h.more (by simp)
theorem QT.zero {w W : World} {m p : Nat} {t : TK} (h : QT w W m t (.slice none 0 0) (.slice none 0 0) p #[.bool false, .int .u8 0, .int .u8 0, .int .u8 0, .int .u8 0, .int .u8 0, .int .u8 0, .int .u8 0, .int .u8 0, .int .u8 0, .int .u8 0, .int .u8 0, .int .u8 0, .int .u8 0, .int .u8 0, .int .u8 0, .int .u8 0] 25) (hs : t.src = []) (hr : t.rcs = []) : QT w (aggW W p (adC zeroA)) m t (.slice none 0 0) (.slice none 0 0) p (adC zeroA).toArray 25 := by
  have h1 := h.ltp
  have hc := aggW_obj (L := (#[.bool false, .int .u8 0, .int .u8 0, .int .u8 0, .int .u8 0, .int .u8 0, .int .u8 0, .int .u8 0, .int .u8 0, .int .u8 0, .int .u8 0, .int .u8 0, .int .u8 0, .int .u8 0, .int .u8 0, .int .u8 0, .int .u8 0] : Array Value).toList) (cs := adC zeroA) (by simpa using h.more) rfl (addrC_one _ _)
  exact ⟨aggW_other h.res _ (by omega), ⟨aggW_other h.tk.1 _ h.ne, h.tk.2⟩, aggW_below h.blw (by omega) _, h.lt, by rw [hs]; exact AdsT.nil _, by rw [hr]; exact RcT.nil _, hc, h1, h.ne⟩
theorem QT.rowz {w W : World} {m p : Nat} {t : TK} {us ur : Value} (h : QT w W m t us ur p (adC zeroA).toArray 25) : row? W p 0 17 = some (adC zeroA) := obj_rowk (A := []) (M := adC zeroA) (C := []) (by simpa using h.more) rfl rfl
theorem snd_ite8 (E : Int) (a b : TK) : (if E ≠ 0 then (a, E) else (b, (0 : Int))).2 = E := by
  by_cases h : E = 0
  · rw [if_neg (by rw [h]; simp), h]
  · rw [if_pos h]
/-- What query tells. -/
def QryP (w : World) (s : List UInt8) (x : Ending) (w' : World) : Prop := ∃ t us ur, x = .returned (.tuple #[.agg (tkC t us ur).toArray, .int .i64 (qry s).2]) ∧ Below w.heap.size w w' ∧ adOk t.g ∧ us.oneCell' = true ∧ ur.oneCell' = true ∧ ((qry s).2 = 0 → t = (qry s).1 ∧ AdsT w' us t.src ∧ RcT w' ur t.rcs)
theorem QT.ret {w W : World} {m p : Nat} {t : TK} {us ur : Value} {L : Array Value} {T : TypeId} (h : QT w W m t us ur p L T) {s : List UInt8} {e : Int} (he : (qry s).2 = e) (ht : e = 0 → (qry s).1 = t) :
    row? (aggW W w.heap.size (tkC t us ur)) w.heap.size 0 26 = some (tkC t us ur) ∧ QryP w s (.returned (.tuple #[.agg (tkC t us ur).toArray, .int .i64 e])) (aggW W w.heap.size (tkC t us ur)) := by
  obtain ⟨q1, q2, q3, q4⟩ := h.done
  exact ⟨q1, t, us, ur, by rw [he], q2, h.tk.2, h.src.1.one, h.rcs.rcs.one, fun h0 => ⟨(ht (he ▸ h0)).symm, q3, q4⟩⟩

set_option maxRecDepth 100000 in
set_option maxHeartbeats 4000000 in
theorem rquery_any (s : List UInt8) (hs : s.length ≤ 100000) (h8 : 8 ≤ s.length) (w : World) :
    Calls Try.prog 21 #[.string (Str s)] w fun x w' => QryP w s x w' := by
  have hsz := Str_size s
  have HF4 : Hid (∀ W, Calls Try.prog 23 #[.string (Str s), .int .i64 4] W fun x w' => x = .returned (.agg (adC (fourL s 4)).toArray) ∧ Below W.heap.size W w') := Lib.hid fun W => rfour_any s hs 4 (by omega) W
  have HO := Lib.hid (fourL_ok s 4)
  have HG := Lib.hid (fun W => rgroup8_any (fourL s 4) (fourL_ok s 4) W)
  have q := fun w0 => eq_ad (fourL s 4) zeroA (fourL_ok s 4) zeroA_ok w0
  have hQ : qry s = (if 8 < s.length ∧ s.length < 12 then (zeroT, 2)
    else if fourL s 4 ≠ zeroA ∧ grp8 (fourL s 4) = false then (zeroT, 2)
    else if s.length = 8 then
      if by8 s 1 = 0 then if fourL s 4 ≠ zeroA then (zeroT, 2) else (⟨false, 1, 1, 0, fourL s 4, false, 0, 0, [], []⟩, 0)
      else (⟨false, 2, 1, by8 s 1, fourL s 4, false, 0, 0, [], []⟩, 0)
    else if fourL s 4 = zeroA ∧ 0 < wd s 10 then (zeroT, 2)
    else if srcsE s 12 (wd s 10) ≠ 0 then (zeroT, srcsE s 12 (wd s 10))
    else (⟨false, 3, 1, valN (by8 s 1) 16, fourL s 4, decide (by8 s 8 / 8 % 2 = 1), (by8 s 8 % 8 : Nat), valN (by8 s 9) 16, srcsL s 12 (wd s 10), []⟩, 0)) := rfl
  generalize fourL s 4 = G at *
  have b1l := by8_lt s 1
  have i1 : (1 : Int) < (s.length : Int) := by omega
  have e1 := Str_at s 1 (by rw [Str_size]; omega)
  have v1 : IntKind.i64.wrap (by8 s 1 : Int) = (by8 s 1 : Int) := by simp only [IntKind.wrap_i64]; omega
  have HB1 := Lib.hid (show ∃ b, b = by8 s 1 from ⟨_, rfl⟩)
  obtain ⟨b1, hb1⟩ := HB1.out
  rw [← hb1] at e1 v1 b1l
  have hbt := bldr_tk 2 1 (b1 : Nat) G HO.out
  have hbz := bldr_ad0
  have hft : fok (tkC ⟨false, 2, 1, (b1 : Nat), G, false, 0, 0, [], []⟩ (.slice none 0 0) (.slice none 0 0)).toArray 26 = true := fok_tk HO.out rfl rfl
  have hfz : fok (adC zeroA).toArray 17 = true := fok_addr false _ zeroA_ok
  have HQ := Lib.hid hQ
  have HB1' := Lib.hid hb1
  clear hQ hb1 HB1
  go_enter Try.func21, Try.ntmps21
  go_upto_region 1 with (fail)
  go_cut [4, 5] from 9 (fun q1 q2 wr => ∃ m p : Nat, q1 = .pointer (some ⟨m, 0, none⟩) ∧ q2 = .pointer (some ⟨p, 0, none⟩) ∧ QT w wr m ⟨false, 2, 1, (b1 : Nat), G, false, 0, 0, [], []⟩ (.slice none 0 0) (.slice none 0 0) p (adC zeroA).toArray 25)
  case first =>
    refine wp_region_held_drew (S := fun _ => True) (by kernel_rfl) (trivial) (fun hHeld => ?_)
    have H0 := Lib.hid (show QR w (w.alloc (.cells #[.bool false, .int .i64 0, .int .i64 0, .int .i64 0, .bool false, .int .u8 0, .int .u8 0, .int .u8 0, .int .u8 0, .int .u8 0, .int .u8 0, .int .u8 0, .int .u8 0, .int .u8 0, .int .u8 0, .int .u8 0, .int .u8 0, .int .u8 0, .int .u8 0, .int .u8 0, .int .u8 0, .bool false, .int .i64 0, .int .i64 0, .slice none 0 0, .slice none 0 0] 29)).drew from QR.startd w)
    generalize (w.alloc (.cells #[.bool false, .int .i64 0, .int .i64 0, .int .i64 0, .bool false, .int .u8 0, .int .u8 0, .int .u8 0, .int .u8 0, .int .u8 0, .int .u8 0, .int .u8 0, .int .u8 0, .int .u8 0, .int .u8 0, .int .u8 0, .int .u8 0, .int .u8 0, .int .u8 0, .int .u8 0, .int .u8 0, .bool false, .int .i64 0, .int .i64 0, .slice none 0 0, .slice none 0 0] 29)).drew = W0 at H0 ⊢
    refine wpAnyH_take (i := 0) (oi := { dst := some 9, op := _, type := _, pos := _, after := _, guard := _ }) (v := ?v1) rfl (by kernel_rfl) (by kernel_rfl) (by kernel_rfl) (fun _ _ _ h => h) (Or.inl ⟨by rfl, ?y1⟩) (by assumption) ?r1
    case y1 => (intro w hSw; go_simp; try with_reducible rfl)
    try simp only [Act.put, List.setIfInBounds_toArray, List.set_cons_zero, List.set_cons_succ]
    refine wpAnyH_take (i := 1) (oi := { dst := some 10, op := _, type := _, pos := _, after := _, guard := _ }) (v := ?v2) rfl (by kernel_rfl) (by kernel_rfl) (by kernel_rfl) (fun _ _ _ h => h) (Or.inl ⟨by rfl, ?y2⟩) (by assumption) ?r2
    case y2 => (intro w hSw; go_simp; try with_reducible rfl)
    try simp only [Act.put, List.setIfInBounds_toArray, List.set_cons_zero, List.set_cons_succ]
    refine wpAnyH_take (i := 2) (oi := { dst := some 11, op := _, type := _, pos := _, after := _, guard := _ }) (v := ?v3) rfl (by kernel_rfl) (by kernel_rfl) (by kernel_rfl) (fun _ _ _ h => h) (Or.inl ⟨by rfl, ?y3⟩) (by assumption) ?r3
    case y3 => (intro w hSw; go_simp; try with_reducible rfl)
    try simp only [Act.put, List.setIfInBounds_toArray, List.set_cons_zero, List.set_cons_succ]
    refine wpAnyH_take (i := 3) (oi := { dst := some 12, op := _, type := _, pos := _, after := _, guard := _ }) (v := ?v4) rfl (by kernel_rfl) (by kernel_rfl) (by kernel_rfl) (fun _ _ _ h => h) (Or.inl ⟨by rfl, ?y4⟩) (by assumption) ?r4
    case y4 => (intro w hSw; go_simp; try with_reducible rfl)
    try simp only [Act.put, List.setIfInBounds_toArray, List.set_cons_zero, List.set_cons_succ]
    refine wpAnyH_take (i := 6) (oi := { dst := some 15, op := _, type := _, pos := _, after := _, guard := _ }) (v := ?v5) rfl (by kernel_rfl) (by kernel_rfl) (by kernel_rfl) (fun _ _ _ h => h) (Or.inl ⟨by rfl, ?y5⟩) (by assumption) ?r5
    case y5 => (intro w hSw; go_simp; try with_reducible rfl)
    try simp only [Act.put, List.setIfInBounds_toArray, List.set_cons_zero, List.set_cons_succ]
    refine wpAnyH_ready (rs := [4, 7, 8]) (by kernel_rfl) (by simp) (AllReadyH.cons (o := _) rfl (fun K hK => ?_) (AllReadyH.cons (o := _) rfl (fun K hK => ?_) (AllReadyH.cons (o := _) rfl (fun K hK => ?_) AllReadyH.nil)))
    · go_simp
      (go_at_call 23; (with_reducible refine (HF4.out _).mono ?_); rintro x w1 ⟨rfl, hb1⟩; have H1 := Lib.hid (H0.out.below hb1); clear hb1)
      try go_wp2_with fail
      refine hK.out _ _ (trivial) (fun hHeld => ?_)
      clear hK K
      try simp only [Act.put, List.setIfInBounds_toArray, List.set_cons_zero, List.set_cons_succ]
      refine wpAnyH_take (i := 5) (oi := { dst := some 14, op := _, type := _, pos := _, after := _, guard := _ }) (v := ?v6) rfl (by kernel_rfl) (by kernel_rfl) (by kernel_rfl) (fun _ _ _ h => h) (Or.inl ⟨by rfl, ?y6⟩) (by assumption) ?r6
      case y6 => (intro w hSw; go_simp; try with_reducible rfl)
      try simp only [Act.put, List.setIfInBounds_toArray, List.set_cons_zero, List.set_cons_succ]
      refine wpAnyH_ready (rs := [7, 8]) (by kernel_rfl) (by simp) (AllReadyH.cons (o := _) rfl (fun K hK => ?_) (AllReadyH.cons (o := _) rfl (fun K hK => ?_) AllReadyH.nil))
      · go_simp
        refine hK.out _ _ (trivial) (fun hHeld => ?_)
        clear hK K
        try simp only [Act.put, List.setIfInBounds_toArray, List.set_cons_zero, List.set_cons_succ]
        have H2 := Lib.hid H1.out.a
        generalize w1.alloc (.cells #[.bool false, .int .i64 0, .int .i64 0, .int .i64 0, .bool false, .int .u8 0, .int .u8 0, .int .u8 0, .int .u8 0, .int .u8 0, .int .u8 0, .int .u8 0, .int .u8 0, .int .u8 0, .int .u8 0, .int .u8 0, .int .u8 0, .int .u8 0, .int .u8 0, .int .u8 0, .int .u8 0, .bool false, .int .i64 0, .int .i64 0, .slice none 0 0, .slice none 0 0] 29) = W2 at H2 ⊢
        generalize w1.heap.size = m at H2 ⊢
        refine wpAnyH_ready (rs := [8]) (by kernel_rfl) (by simp) (AllReadyH.cons (o := _) rfl (fun K hK => ?_) AllReadyH.nil)
        go_simp
        refine hK.out _ _ (trivial) (fun hHeld => ?_)
        clear hK K
        try simp only [Act.put, List.setIfInBounds_toArray, List.set_cons_zero, List.set_cons_succ]
        have H3 := Lib.hid H2.out.z
        generalize W2.alloc (.cells #[.bool false, .int .u8 0, .int .u8 0, .int .u8 0, .int .u8 0, .int .u8 0, .int .u8 0, .int .u8 0, .int .u8 0, .int .u8 0, .int .u8 0, .int .u8 0, .int .u8 0, .int .u8 0, .int .u8 0, .int .u8 0, .int .u8 0] 25) = W3 at H3 ⊢
        generalize W2.heap.size = p at H3 ⊢
        have f1 := H3.out.freea
        refine wpAnyH_ready (rs := [9]) (by kernel_rfl) (by simp) (AllReadyH.cons (o := _) rfl (fun K hK => ?_) AllReadyH.nil)
        go_simp
        refine hK.out _ _ (trivial) (fun hHeld => ?_)
        clear hK K
        try simp only [Act.put, List.setIfInBounds_toArray, List.set_cons_zero, List.set_cons_succ]
        have H4 := Lib.hid (H3.out.t0 ⟨false, 2, 1, (b1 : Nat), G, false, 0, 0, [], []⟩ HO.out rfl rfl)
        clear f1
        generalize aggW W3 m _ = W4 at H4 ⊢
        have f2 := H4.out.freep
        refine wpAnyH_ready (rs := [10]) (by kernel_rfl) (by simp) (AllReadyH.cons (o := _) rfl (fun K hK => ?_) AllReadyH.nil)
        go_simp
        refine hK.out _ _ (trivial) (fun hHeld => ?_)
        clear hK K
        try simp only [Act.put, List.setIfInBounds_toArray, List.set_cons_zero, List.set_cons_succ]
        have H5 := Lib.hid (H4.out.zero rfl rfl)
        clear f2
        generalize aggW W4 p _ = W5 at H5 ⊢
        refine wpAnyH_done (by kernel_rfl) ?_ _
        go_wp2
        go_meet
        case rel => exact ⟨m, p, rfl, rfl, H5.out⟩
      · go_simp
        refine hK.out _ _ (trivial) (fun hHeld => ?_)
        clear hK K
        try simp only [Act.put, List.setIfInBounds_toArray, List.set_cons_zero, List.set_cons_succ]
        have H2 := Lib.hid H1.out.z
        generalize w1.alloc (.cells #[.bool false, .int .u8 0, .int .u8 0, .int .u8 0, .int .u8 0, .int .u8 0, .int .u8 0, .int .u8 0, .int .u8 0, .int .u8 0, .int .u8 0, .int .u8 0, .int .u8 0, .int .u8 0, .int .u8 0, .int .u8 0, .int .u8 0] 25) = W2 at H2 ⊢
        generalize w1.heap.size = p at H2 ⊢
        refine wpAnyH_ready (rs := [7]) (by kernel_rfl) (by simp) (AllReadyH.cons (o := _) rfl (fun K hK => ?_) AllReadyH.nil)
        go_simp
        refine hK.out _ _ (trivial) (fun hHeld => ?_)
        clear hK K
        try simp only [Act.put, List.setIfInBounds_toArray, List.set_cons_zero, List.set_cons_succ]
        have H3 := Lib.hid H2.out.a
        generalize W2.alloc (.cells #[.bool false, .int .i64 0, .int .i64 0, .int .i64 0, .bool false, .int .u8 0, .int .u8 0, .int .u8 0, .int .u8 0, .int .u8 0, .int .u8 0, .int .u8 0, .int .u8 0, .int .u8 0, .int .u8 0, .int .u8 0, .int .u8 0, .int .u8 0, .int .u8 0, .int .u8 0, .int .u8 0, .bool false, .int .i64 0, .int .i64 0, .slice none 0 0, .slice none 0 0] 29) = W3 at H3 ⊢
        generalize W2.heap.size = m at H3 ⊢
        have f1 := H3.out.freea
        refine wpAnyH_ready (rs := [9]) (by kernel_rfl) (by simp) (AllReadyH.cons (o := _) rfl (fun K hK => ?_) AllReadyH.nil)
        go_simp
        refine hK.out _ _ (trivial) (fun hHeld => ?_)
        clear hK K
        try simp only [Act.put, List.setIfInBounds_toArray, List.set_cons_zero, List.set_cons_succ]
        have H4 := Lib.hid (H3.out.t0 ⟨false, 2, 1, (b1 : Nat), G, false, 0, 0, [], []⟩ HO.out rfl rfl)
        clear f1
        generalize aggW W3 m _ = W4 at H4 ⊢
        have f2 := H4.out.freep
        refine wpAnyH_ready (rs := [10]) (by kernel_rfl) (by simp) (AllReadyH.cons (o := _) rfl (fun K hK => ?_) AllReadyH.nil)
        go_simp
        refine hK.out _ _ (trivial) (fun hHeld => ?_)
        clear hK K
        try simp only [Act.put, List.setIfInBounds_toArray, List.set_cons_zero, List.set_cons_succ]
        have H5 := Lib.hid (H4.out.zero rfl rfl)
        clear f2
        generalize aggW W4 p _ = W5 at H5 ⊢
        refine wpAnyH_done (by kernel_rfl) ?_ _
        go_wp2
        go_meet
        case rel => exact ⟨m, p, rfl, rfl, H5.out⟩
    · go_simp
      refine hK.out _ _ (trivial) (fun hHeld => ?_)
      clear hK K
      try simp only [Act.put, List.setIfInBounds_toArray, List.set_cons_zero, List.set_cons_succ]
      have H1 := Lib.hid H0.out.a
      generalize W0.alloc (.cells #[.bool false, .int .i64 0, .int .i64 0, .int .i64 0, .bool false, .int .u8 0, .int .u8 0, .int .u8 0, .int .u8 0, .int .u8 0, .int .u8 0, .int .u8 0, .int .u8 0, .int .u8 0, .int .u8 0, .int .u8 0, .int .u8 0, .int .u8 0, .int .u8 0, .int .u8 0, .int .u8 0, .bool false, .int .i64 0, .int .i64 0, .slice none 0 0, .slice none 0 0] 29) = W1 at H1 ⊢
      generalize W0.heap.size = m at H1 ⊢
      refine wpAnyH_ready (rs := [4, 8]) (by kernel_rfl) (by simp) (AllReadyH.cons (o := _) rfl (fun K hK => ?_) (AllReadyH.cons (o := _) rfl (fun K hK => ?_) AllReadyH.nil))
      · go_simp
        (go_at_call 23; (with_reducible refine (HF4.out _).mono ?_); rintro x w2 ⟨rfl, hb2⟩; have H2 := Lib.hid (H1.out.below hb2); clear hb2)
        try go_wp2_with fail
        refine hK.out _ _ (trivial) (fun hHeld => ?_)
        clear hK K
        try simp only [Act.put, List.setIfInBounds_toArray, List.set_cons_zero, List.set_cons_succ]
        refine wpAnyH_take (i := 5) (oi := { dst := some 14, op := _, type := _, pos := _, after := _, guard := _ }) (v := ?v7) rfl (by kernel_rfl) (by kernel_rfl) (by kernel_rfl) (fun _ _ _ h => h) (Or.inl ⟨by rfl, ?y7⟩) (by assumption) ?r7
        case y7 => (intro w hSw; go_simp; try with_reducible rfl)
        try simp only [Act.put, List.setIfInBounds_toArray, List.set_cons_zero, List.set_cons_succ]
        refine wpAnyH_ready (rs := [8]) (by kernel_rfl) (by simp) (AllReadyH.cons (o := _) rfl (fun K hK => ?_) AllReadyH.nil)
        go_simp
        refine hK.out _ _ (trivial) (fun hHeld => ?_)
        clear hK K
        try simp only [Act.put, List.setIfInBounds_toArray, List.set_cons_zero, List.set_cons_succ]
        have H3 := Lib.hid H2.out.z
        generalize w2.alloc (.cells #[.bool false, .int .u8 0, .int .u8 0, .int .u8 0, .int .u8 0, .int .u8 0, .int .u8 0, .int .u8 0, .int .u8 0, .int .u8 0, .int .u8 0, .int .u8 0, .int .u8 0, .int .u8 0, .int .u8 0, .int .u8 0, .int .u8 0] 25) = W3 at H3 ⊢
        generalize w2.heap.size = p at H3 ⊢
        have f1 := H3.out.freea
        refine wpAnyH_ready (rs := [9]) (by kernel_rfl) (by simp) (AllReadyH.cons (o := _) rfl (fun K hK => ?_) AllReadyH.nil)
        go_simp
        refine hK.out _ _ (trivial) (fun hHeld => ?_)
        clear hK K
        try simp only [Act.put, List.setIfInBounds_toArray, List.set_cons_zero, List.set_cons_succ]
        have H4 := Lib.hid (H3.out.t0 ⟨false, 2, 1, (b1 : Nat), G, false, 0, 0, [], []⟩ HO.out rfl rfl)
        clear f1
        generalize aggW W3 m _ = W4 at H4 ⊢
        have f2 := H4.out.freep
        refine wpAnyH_ready (rs := [10]) (by kernel_rfl) (by simp) (AllReadyH.cons (o := _) rfl (fun K hK => ?_) AllReadyH.nil)
        go_simp
        refine hK.out _ _ (trivial) (fun hHeld => ?_)
        clear hK K
        try simp only [Act.put, List.setIfInBounds_toArray, List.set_cons_zero, List.set_cons_succ]
        have H5 := Lib.hid (H4.out.zero rfl rfl)
        clear f2
        generalize aggW W4 p _ = W5 at H5 ⊢
        refine wpAnyH_done (by kernel_rfl) ?_ _
        go_wp2
        go_meet
        case rel => exact ⟨m, p, rfl, rfl, H5.out⟩
      · go_simp
        refine hK.out _ _ (trivial) (fun hHeld => ?_)
        clear hK K
        try simp only [Act.put, List.setIfInBounds_toArray, List.set_cons_zero, List.set_cons_succ]
        have H2 := Lib.hid H1.out.z
        generalize W1.alloc (.cells #[.bool false, .int .u8 0, .int .u8 0, .int .u8 0, .int .u8 0, .int .u8 0, .int .u8 0, .int .u8 0, .int .u8 0, .int .u8 0, .int .u8 0, .int .u8 0, .int .u8 0, .int .u8 0, .int .u8 0, .int .u8 0, .int .u8 0] 25) = W2 at H2 ⊢
        generalize W1.heap.size = p at H2 ⊢
        refine wpAnyH_ready (rs := [4]) (by kernel_rfl) (by simp) (AllReadyH.cons (o := _) rfl (fun K hK => ?_) AllReadyH.nil)
        go_simp
        (go_at_call 23; (with_reducible refine (HF4.out _).mono ?_); rintro x w3 ⟨rfl, hb3⟩; have H3 := Lib.hid (H2.out.below hb3); have f1 := H3.out.freea; clear hb3)
        try go_wp2_with fail
        refine hK.out _ _ (trivial) (fun hHeld => ?_)
        clear hK K
        try simp only [Act.put, List.setIfInBounds_toArray, List.set_cons_zero, List.set_cons_succ]
        refine wpAnyH_take (i := 5) (oi := { dst := some 14, op := _, type := _, pos := _, after := _, guard := _ }) (v := ?v8) rfl (by kernel_rfl) (by kernel_rfl) (by kernel_rfl) (fun _ _ _ h => h) (Or.inl ⟨by rfl, ?y8⟩) (by assumption) ?r8
        case y8 => (intro w hSw; go_simp; try with_reducible rfl)
        try simp only [Act.put, List.setIfInBounds_toArray, List.set_cons_zero, List.set_cons_succ]
        refine wpAnyH_ready (rs := [9]) (by kernel_rfl) (by simp) (AllReadyH.cons (o := _) rfl (fun K hK => ?_) AllReadyH.nil)
        go_simp
        refine hK.out _ _ (trivial) (fun hHeld => ?_)
        clear hK K
        try simp only [Act.put, List.setIfInBounds_toArray, List.set_cons_zero, List.set_cons_succ]
        have H4 := Lib.hid (H3.out.t0 ⟨false, 2, 1, (b1 : Nat), G, false, 0, 0, [], []⟩ HO.out rfl rfl)
        clear f1
        generalize aggW w3 m _ = W4 at H4 ⊢
        have f2 := H4.out.freep
        refine wpAnyH_ready (rs := [10]) (by kernel_rfl) (by simp) (AllReadyH.cons (o := _) rfl (fun K hK => ?_) AllReadyH.nil)
        go_simp
        refine hK.out _ _ (trivial) (fun hHeld => ?_)
        clear hK K
        try simp only [Act.put, List.setIfInBounds_toArray, List.set_cons_zero, List.set_cons_succ]
        have H5 := Lib.hid (H4.out.zero rfl rfl)
        clear f2
        generalize aggW W4 p _ = W5 at H5 ⊢
        refine wpAnyH_done (by kernel_rfl) ?_ _
        go_wp2
        go_meet
        case rel => exact ⟨m, p, rfl, rfl, H5.out⟩
    · go_simp
      refine hK.out _ _ (trivial) (fun hHeld => ?_)
      clear hK K
      try simp only [Act.put, List.setIfInBounds_toArray, List.set_cons_zero, List.set_cons_succ]
      have H1 := Lib.hid H0.out.z
      generalize W0.alloc (.cells #[.bool false, .int .u8 0, .int .u8 0, .int .u8 0, .int .u8 0, .int .u8 0, .int .u8 0, .int .u8 0, .int .u8 0, .int .u8 0, .int .u8 0, .int .u8 0, .int .u8 0, .int .u8 0, .int .u8 0, .int .u8 0, .int .u8 0] 25) = W1 at H1 ⊢
      generalize W0.heap.size = p at H1 ⊢
      refine wpAnyH_ready (rs := [4, 7]) (by kernel_rfl) (by simp) (AllReadyH.cons (o := _) rfl (fun K hK => ?_) (AllReadyH.cons (o := _) rfl (fun K hK => ?_) AllReadyH.nil))
      · go_simp
        (go_at_call 23; (with_reducible refine (HF4.out _).mono ?_); rintro x w2 ⟨rfl, hb2⟩; have H2 := Lib.hid (H1.out.below hb2); clear hb2)
        try go_wp2_with fail
        refine hK.out _ _ (trivial) (fun hHeld => ?_)
        clear hK K
        try simp only [Act.put, List.setIfInBounds_toArray, List.set_cons_zero, List.set_cons_succ]
        refine wpAnyH_take (i := 5) (oi := { dst := some 14, op := _, type := _, pos := _, after := _, guard := _ }) (v := ?v9) rfl (by kernel_rfl) (by kernel_rfl) (by kernel_rfl) (fun _ _ _ h => h) (Or.inl ⟨by rfl, ?y9⟩) (by assumption) ?r9
        case y9 => (intro w hSw; go_simp; try with_reducible rfl)
        try simp only [Act.put, List.setIfInBounds_toArray, List.set_cons_zero, List.set_cons_succ]
        refine wpAnyH_ready (rs := [7]) (by kernel_rfl) (by simp) (AllReadyH.cons (o := _) rfl (fun K hK => ?_) AllReadyH.nil)
        go_simp
        refine hK.out _ _ (trivial) (fun hHeld => ?_)
        clear hK K
        try simp only [Act.put, List.setIfInBounds_toArray, List.set_cons_zero, List.set_cons_succ]
        have H3 := Lib.hid H2.out.a
        generalize w2.alloc (.cells #[.bool false, .int .i64 0, .int .i64 0, .int .i64 0, .bool false, .int .u8 0, .int .u8 0, .int .u8 0, .int .u8 0, .int .u8 0, .int .u8 0, .int .u8 0, .int .u8 0, .int .u8 0, .int .u8 0, .int .u8 0, .int .u8 0, .int .u8 0, .int .u8 0, .int .u8 0, .int .u8 0, .bool false, .int .i64 0, .int .i64 0, .slice none 0 0, .slice none 0 0] 29) = W3 at H3 ⊢
        generalize w2.heap.size = m at H3 ⊢
        have f1 := H3.out.freea
        refine wpAnyH_ready (rs := [9]) (by kernel_rfl) (by simp) (AllReadyH.cons (o := _) rfl (fun K hK => ?_) AllReadyH.nil)
        go_simp
        refine hK.out _ _ (trivial) (fun hHeld => ?_)
        clear hK K
        try simp only [Act.put, List.setIfInBounds_toArray, List.set_cons_zero, List.set_cons_succ]
        have H4 := Lib.hid (H3.out.t0 ⟨false, 2, 1, (b1 : Nat), G, false, 0, 0, [], []⟩ HO.out rfl rfl)
        clear f1
        generalize aggW W3 m _ = W4 at H4 ⊢
        have f2 := H4.out.freep
        refine wpAnyH_ready (rs := [10]) (by kernel_rfl) (by simp) (AllReadyH.cons (o := _) rfl (fun K hK => ?_) AllReadyH.nil)
        go_simp
        refine hK.out _ _ (trivial) (fun hHeld => ?_)
        clear hK K
        try simp only [Act.put, List.setIfInBounds_toArray, List.set_cons_zero, List.set_cons_succ]
        have H5 := Lib.hid (H4.out.zero rfl rfl)
        clear f2
        generalize aggW W4 p _ = W5 at H5 ⊢
        refine wpAnyH_done (by kernel_rfl) ?_ _
        go_wp2
        go_meet
        case rel => exact ⟨m, p, rfl, rfl, H5.out⟩
      · go_simp
        refine hK.out _ _ (trivial) (fun hHeld => ?_)
        clear hK K
        try simp only [Act.put, List.setIfInBounds_toArray, List.set_cons_zero, List.set_cons_succ]
        have H2 := Lib.hid H1.out.a
        generalize W1.alloc (.cells #[.bool false, .int .i64 0, .int .i64 0, .int .i64 0, .bool false, .int .u8 0, .int .u8 0, .int .u8 0, .int .u8 0, .int .u8 0, .int .u8 0, .int .u8 0, .int .u8 0, .int .u8 0, .int .u8 0, .int .u8 0, .int .u8 0, .int .u8 0, .int .u8 0, .int .u8 0, .int .u8 0, .bool false, .int .i64 0, .int .i64 0, .slice none 0 0, .slice none 0 0] 29) = W2 at H2 ⊢
        generalize W1.heap.size = m at H2 ⊢
        refine wpAnyH_ready (rs := [4]) (by kernel_rfl) (by simp) (AllReadyH.cons (o := _) rfl (fun K hK => ?_) AllReadyH.nil)
        go_simp
        (go_at_call 23; (with_reducible refine (HF4.out _).mono ?_); rintro x w3 ⟨rfl, hb3⟩; have H3 := Lib.hid (H2.out.below hb3); have f1 := H3.out.freea; clear hb3)
        try go_wp2_with fail
        refine hK.out _ _ (trivial) (fun hHeld => ?_)
        clear hK K
        try simp only [Act.put, List.setIfInBounds_toArray, List.set_cons_zero, List.set_cons_succ]
        refine wpAnyH_take (i := 5) (oi := { dst := some 14, op := _, type := _, pos := _, after := _, guard := _ }) (v := ?v10) rfl (by kernel_rfl) (by kernel_rfl) (by kernel_rfl) (fun _ _ _ h => h) (Or.inl ⟨by rfl, ?y10⟩) (by assumption) ?r10
        case y10 => (intro w hSw; go_simp; try with_reducible rfl)
        try simp only [Act.put, List.setIfInBounds_toArray, List.set_cons_zero, List.set_cons_succ]
        refine wpAnyH_ready (rs := [9]) (by kernel_rfl) (by simp) (AllReadyH.cons (o := _) rfl (fun K hK => ?_) AllReadyH.nil)
        go_simp
        refine hK.out _ _ (trivial) (fun hHeld => ?_)
        clear hK K
        try simp only [Act.put, List.setIfInBounds_toArray, List.set_cons_zero, List.set_cons_succ]
        have H4 := Lib.hid (H3.out.t0 ⟨false, 2, 1, (b1 : Nat), G, false, 0, 0, [], []⟩ HO.out rfl rfl)
        clear f1
        generalize aggW w3 m _ = W4 at H4 ⊢
        have f2 := H4.out.freep
        refine wpAnyH_ready (rs := [10]) (by kernel_rfl) (by simp) (AllReadyH.cons (o := _) rfl (fun K hK => ?_) AllReadyH.nil)
        go_simp
        refine hK.out _ _ (trivial) (fun hHeld => ?_)
        clear hK K
        try simp only [Act.put, List.setIfInBounds_toArray, List.set_cons_zero, List.set_cons_succ]
        have H5 := Lib.hid (H4.out.zero rfl rfl)
        clear f2
        generalize aggW W4 p _ = W5 at H5 ⊢
        refine wpAnyH_done (by kernel_rfl) ?_ _
        go_wp2
        go_meet
        case rel => exact ⟨m, p, rfl, rfl, H5.out⟩
  case rest =>
    obtain ⟨m, p, rfl, rfl, hg⟩ := hcut
    have H1 := Lib.hid hg
    clear hg hbt hbz hft hfz HF4
    obtain ⟨k1, k2, k3, k4, k5, k6, k7, k8, k9, ka, kb, kc, kf⟩ := H1.out.cells
    have rz := H1.out.rowz
    have hfk := H1.out.fok
    try simp only at k1 k2 k3 k4 k5 k8 k9 ka kb kc hfk
    by_cases hA : 8 < s.length ∧ s.length < 12
    · have ta : (8 : Int) < (s.length : Int) := by omega
      have tb : (s.length : Int) < 12 := by omega
      have HA := Lib.hid hA
      clear hA
      go_upto_region 3 with (fail)
      repeat (first | go_values | go_skip | go_guarded | go_step | go_upon | go_in)
      obtain ⟨qr1, qr2⟩ := H1.out.ret (s := s) (e := 2) (by rw [HQ.out, if_pos HA.out]) (fun h => absurd h (by omega))
      exact bodyPost_ret (results_cell2 Try.results21 rfl (ld_some qr1 (ldr_tk _ _ _))) rfl qr2
    by_cases l8 : s.length = 8
    · have ta : decide ((8 : Int) < (s.length : Int)) = false := decide_eq_false (by omega)
      have tl8 : ((s.length : Int) == 8) = true := by rw [beq_iff_eq]; omega
      have L8 := Lib.hid l8
      clear l8
      by_cases zg : G = zeroA
      · rw [decide_eq_true zg] at q
        have ZG := Lib.hid zg
        clear zg
        by_cases b0 : b1 = 0
        · have tb : ((b1 : Int) == 0) = true := by rw [beq_iff_eq]; omega
          have B0 := Lib.hid b0
          clear b0
          go_upto_region 9 with (fail)
          have H7 := Lib.hid (H1.out.set 1 (.int .i64 1) (tkC_ver _ _ _ _) HO.out (AdsT.nil _) (RcT.nil _))
          simp only at H7
          clear k1 k2 k3 k4 k5 k6 k7 k8 k9 ka kb kc kf rz hfk
          generalize World.setCell _ ⟨m, 1, none⟩ _ = W7 at H7 ⊢
          obtain ⟨k1, k2, k3, k4, k5, k6, k7, k8, k9, ka, kb, kc, kf⟩ := H7.out.cells
          have rz := H7.out.rowz
          have hfk := H7.out.fok
          try simp only at k1 k2 k3 k4 k5 k8 k9 ka kb kc hfk
          go_upto_region 11 with (fail)
          repeat (first | go_values | go_skip | go_guarded | go_step | go_upon | go_in)
          obtain ⟨qr1, qr2⟩ := H7.out.ret (s := s) (e := 0) (by rw [HQ.out, if_neg hA, if_neg (by rintro ⟨h, _⟩; exact h ZG.out), if_pos L8.out, if_pos (HB1'.out ▸ B0.out), if_neg (by intro h; exact h ZG.out)]) (fun _ => by rw [HQ.out, if_neg hA, if_neg (by rintro ⟨h, _⟩; exact h ZG.out), if_pos L8.out, if_pos (HB1'.out ▸ B0.out), if_neg (by intro h; exact h ZG.out), B0.out]; rfl)
          exact bodyPost_ret (results_cell2 Try.results21 rfl (ld_some qr1 (ldr_tk _ _ _))) rfl qr2
        · have tb : ((b1 : Int) == 0) = false := by rw [beq_eq_false_iff_ne]; omega
          have B0 := Lib.hid b0
          clear b0
          go_upto_region 11 with (fail)
          repeat (first | go_values | go_skip | go_guarded | go_step | go_upon | go_in)
          obtain ⟨qr1, qr2⟩ := H1.out.ret (s := s) (e := 0) (by rw [HQ.out, if_neg hA, if_neg (by rintro ⟨h, _⟩; exact h ZG.out), if_pos L8.out, if_neg (by rw [← HB1'.out]; exact B0.out)]) (fun _ => by rw [HQ.out, if_neg hA, if_neg (by rintro ⟨h, _⟩; exact h ZG.out), if_pos L8.out, if_neg (by rw [← HB1'.out]; exact B0.out), ← HB1'.out])
          exact bodyPost_ret (results_cell2 Try.results21 rfl (ld_some qr1 (ldr_tk _ _ _))) rfl qr2
      · rw [decide_eq_false zg] at q
        have ZG := Lib.hid zg
        clear zg
        cases hgg : grp8 G with
        | false =>
          rw [hgg] at HG
          have HGG := Lib.hid hgg
          clear hgg
          go_upto_region 5 with (go_at_call 24; (with_reducible refine (HG.out _).mono ?_); rintro x w7 ⟨rfl, hb7⟩; have H2 := Lib.hid (H1.out.below hb7); clear hb7 k1 k2 k3 k4 k5 k6 k7 k8 k9 ka kb kc kf rz; obtain ⟨k1, k2, k3, k4, k5, k6, k7, k8, k9, ka, kb, kc, kf⟩ := H2.out.cells; have rz := H2.out.rowz; try simp only at k1 k2 k3 k4 k5 k8 k9 ka kb kc)
          repeat (first | go_values | go_skip | go_guarded | go_step | go_upon | go_in)
          obtain ⟨qr1, qr2⟩ := H2.out.ret (s := s) (e := 2) (by rw [HQ.out, if_neg hA, if_pos ⟨ZG.out, HGG.out⟩]) (fun h => absurd h (by omega))
          exact bodyPost_ret (results_cell2 Try.results21 rfl (ld_some qr1 (ldr_tk _ _ _))) rfl qr2
        | true =>
          rw [hgg] at HG
          have HGG := Lib.hid hgg
          clear hgg
          go_upto_region 6 with (go_at_call 24; (with_reducible refine (HG.out _).mono ?_); rintro x w7 ⟨rfl, hb7⟩; have H2 := Lib.hid (H1.out.below hb7); clear hb7 k1 k2 k3 k4 k5 k6 k7 k8 k9 ka kb kc kf rz; obtain ⟨k1, k2, k3, k4, k5, k6, k7, k8, k9, ka, kb, kc, kf⟩ := H2.out.cells; have rz := H2.out.rowz; try simp only at k1 k2 k3 k4 k5 k8 k9 ka kb kc)
          by_cases b0 : b1 = 0
          · have tb : ((b1 : Int) == 0) = true := by rw [beq_iff_eq]; omega
            have B0 := Lib.hid b0
            clear b0
            go_upto_region 9 with (fail)
            have H7 := Lib.hid (H2.out.set 1 (.int .i64 1) (tkC_ver _ _ _ _) HO.out (AdsT.nil _) (RcT.nil _))
            simp only at H7
            clear k1 k2 k3 k4 k5 k6 k7 k8 k9 ka kb kc kf rz hfk
            generalize World.setCell _ ⟨m, 1, none⟩ _ = W7 at H7 ⊢
            obtain ⟨k1, k2, k3, k4, k5, k6, k7, k8, k9, ka, kb, kc, kf⟩ := H7.out.cells
            have rz := H7.out.rowz
            have hfk := H7.out.fok
            try simp only at k1 k2 k3 k4 k5 k8 k9 ka kb kc hfk
            go_upto_region 10 with (fail)
            repeat (first | go_values | go_skip | go_guarded | go_step | go_upon | go_in)
            obtain ⟨qr1, qr2⟩ := H7.out.ret (s := s) (e := 2) (by rw [HQ.out, if_neg hA, if_neg (by rintro ⟨_, h⟩; rw [HGG.out] at h; exact absurd h (by simp)), if_pos L8.out, if_pos (HB1'.out ▸ B0.out), if_pos ZG.out]) (fun h => absurd h (by omega))
            exact bodyPost_ret (results_cell2 Try.results21 rfl (ld_some qr1 (ldr_tk _ _ _))) rfl qr2
          · have tb : ((b1 : Int) == 0) = false := by rw [beq_eq_false_iff_ne]; omega
            have B0 := Lib.hid b0
            clear b0
            go_upto_region 11 with (fail)
            repeat (first | go_values | go_skip | go_guarded | go_step | go_upon | go_in)
            obtain ⟨qr1, qr2⟩ := H2.out.ret (s := s) (e := 0) (by rw [HQ.out, if_neg hA, if_neg (by rintro ⟨_, h⟩; rw [HGG.out] at h; exact absurd h (by simp)), if_pos L8.out, if_neg (by rw [← HB1'.out]; exact B0.out)]) (fun _ => by rw [HQ.out, if_neg hA, if_neg (by rintro ⟨_, h⟩; rw [HGG.out] at h; exact absurd h (by simp)), if_pos L8.out, if_neg (by rw [← HB1'.out]; exact B0.out), ← HB1'.out])
            exact bodyPost_ret (results_cell2 Try.results21 rfl (ld_some qr1 (ldr_tk _ _ _))) rfl qr2
    · have ta : decide ((8 : Int) < (s.length : Int)) = true := decide_eq_true (by omega)
      have tb : decide ((s.length : Int) < 12) = false := decide_eq_false (by omega)
      have tl8 : ((s.length : Int) == 8) = false := by rw [beq_eq_false_iff_ne]; omega
      have h12 : 12 ≤ s.length := by omega
      have L8 := Lib.hid l8
      clear l8
      by_cases zg : G = zeroA
      · rw [decide_eq_true zg] at q
        have ZG := Lib.hid zg
        clear zg
        have i9 : (9 : Int) < (s.length : Int) := by omega
        have i8 : (8 : Int) < (s.length : Int) := by omega
        have e9 := Str_at s 9 (by rw [Str_size]; omega)
        have e8 := Str_at s 8 (by rw [Str_size]; omega)
        have b9l := by8_lt s 9
        have b8l := by8_lt s 8
        obtain ⟨b9, hb9⟩ : ∃ b, b = by8 s 9 := ⟨_, rfl⟩
        obtain ⟨b8, hb8⟩ : ∃ b, b = by8 s 8 := ⟨_, rfl⟩
        rw [← hb9] at e9 b9l
        rw [← hb8] at e8 b8l
        have HB9 := Lib.hid hb9
        have HB8 := Lib.hid hb8
        clear hb9 hb8
        have v9 : IntKind.i64.wrap (b9 : Int) = (b9 : Int) := by simp only [IntKind.wrap_i64]; omega
        obtain ⟨V1, hV1⟩ : ∃ v, v = valN b1 16 := ⟨_, rfl⟩
        obtain ⟨V9, hV9⟩ : ∃ v, v = valN b9 16 := ⟨_, rfl⟩
        have HE1 := Lib.hid hV1
        have HE9 := Lib.hid hV9
        clear hV1 hV9
        have HV1 : Hid (∀ W, Calls Try.prog 62 #[.int .i64 b1] W fun x w' => x = .returned (.int .i64 V1) ∧ w' = W) := Lib.hid fun W => (rvalue8 b1 W).mono fun _ _ h => by
          rw [show clampN ((b1 : Nat) : Int) 255 = b1 by unfold clampN; split <;> omega, ← HE1.out] at h
          exact ⟨h.1, h.2.symm⟩
        have HV9 : Hid (∀ W, Calls Try.prog 62 #[.int .i64 b9] W fun x w' => x = .returned (.int .i64 V9) ∧ w' = W) := Lib.hid fun W => (rvalue8 b9 W).mono fun _ _ h => by
          rw [show clampN ((b9 : Nat) : Int) 255 = b9 by unfold clampN; split <;> omega, ← HE9.out] at h
          exact ⟨h.1, h.2.symm⟩
        obtain ⟨c8, hc8⟩ : ∃ c, c = b8 / 8 := ⟨_, rfl⟩
        obtain ⟨d8, hd8⟩ : ∃ c, c = c8 % 2 := ⟨_, rfl⟩
        obtain ⟨r8, hr8⟩ : ∃ c, c = b8 % 8 := ⟨_, rfl⟩
        obtain ⟨qb, hqb⟩ : ∃ q, q = ((d8 : Int) == 1) := ⟨_, rfl⟩
        have t81 : (b8 : Int).tdiv 8 = (c8 : Int) := by rw [hc8]; rfl
        have t82 : (b8 : Int) / 8 = (c8 : Int) := by rw [hc8]; rfl
        have t83 : (c8 : Int).tmod 2 = (d8 : Int) := by rw [hd8]; rfl
        have t84 : (c8 : Int) % 2 = (d8 : Int) := by rw [hd8]; rfl
        have t85 : (b8 : Int).tmod 8 = (r8 : Int) := by rw [hr8]; rfl
        have t86 : (b8 : Int) % 8 = (r8 : Int) := by rw [hr8]; rfl
        have y81 : IntKind.u8.wrap (c8 : Int) = (c8 : Int) := by simp only [IntKind.wrap_u8]; omega
        have y82 : IntKind.u8.wrap (d8 : Int) = (d8 : Int) := by simp only [IntKind.wrap_u8]; omega
        have y83 : IntKind.u8.wrap (r8 : Int) = (r8 : Int) := by simp only [IntKind.wrap_u8]; omega
        have y84 : IntKind.i64.wrap (r8 : Int) = (r8 : Int) := by simp only [IntKind.wrap_i64]; omega
        have tqb : ((d8 : Int) == 1) = qb := hqb.symm
        have HQB := Lib.hid (show qb = decide (by8 s 8 / 8 % 2 = 1) by rw [hqb, hd8, hc8, HB8.out, Bool.eq_iff_iff]; simp; omega)
        have HR8 := Lib.hid (show r8 = by8 s 8 % 8 by rw [hr8, HB8.out])
        clear hc8 hd8 hr8 hqb
        have n10l := wd_lt s 10 (by omega)
        have HN10 : Hid (∀ W, Calls Try.prog 60 #[.string ((Str s).extract 10 12)] W fun x w' => x = .returned (.int .u64 (wd s 10)) ∧ w' = W) := Lib.hid fun W => rnum3 s hs 10 12 W
        have vn : IntKind.i64.wrap (wd s 10 : Int) = (wd s 10 : Int) := by simp only [IntKind.wrap_i64]; omega
        have hi12 : (12 : Int) ≤ (s.length : Int) := by omega
        have HSR : Hid (∀ W, Calls Try.prog 63 #[.string (Str s), .int .i64 12, .int .i64 (wd s 10 : Nat)] W fun x w' => SrcP W s 12 (wd s 10) x w') := Lib.hid fun W => rsources_any s hs 12 (wd s 10) (by omega) (by omega) W
        obtain ⟨n10, hn10⟩ : ∃ n, n = wd s 10 := ⟨_, rfl⟩
        rw [← hn10] at HN10 vn HSR n10l
        have HN := Lib.hid hn10
        clear hn10
        go_upto_region 12 with (fail)
        refine wp_region_held_drew (S := fun _ => True) (by kernel_rfl) (trivial) (fun hHeld => ?_)
        have Hs := Lib.hid (show QT w wc.drew m _ _ _ p _ _ from H1.out.below ⟨rfl, rfl, rfl, Nat.le_refl _, fun _ _ => rfl⟩)
        generalize World.drew wc = Wd at Hs ⊢
        clear k1 k2 k3 k4 k5 k6 k7 k8 k9 ka kb kc kf
        obtain ⟨k1, k2, k3, k4, k5, k6, k7, k8, k9, ka, kb, kc, kf⟩ := Hs.out.cells
        try simp only at k1 k2 k3 k4 k5 k8 k9 ka kb kc
        refine wpAnyH_take (i := 0) (oi := { dst := some 49, op := _, type := _, pos := _, after := _, guard := _ }) (v := ?v41) rfl (by kernel_rfl) (by kernel_rfl) (by kernel_rfl) (fun _ _ _ h => h) (Or.inl ⟨by rfl, ?y41⟩) (by assumption) ?r41
        case y41 => (intro w hSw; go_simp; try with_reducible rfl)
        try simp only [Act.put, List.setIfInBounds_toArray, List.set_cons_zero, List.set_cons_succ]
        refine wpAnyH_take (i := 1) (oi := { dst := some 50, op := _, type := _, pos := _, after := _, guard := _ }) (v := ?v42) rfl (by kernel_rfl) (by kernel_rfl) (by kernel_rfl) (fun _ _ _ h => h) (Or.inl ⟨by rfl, ?y42⟩) (by assumption) ?r42
        case y42 => (intro w hSw; go_simp; try with_reducible rfl)
        try simp only [Act.put, List.setIfInBounds_toArray, List.set_cons_zero, List.set_cons_succ]
        refine wpAnyH_take (i := 2) (oi := { dst := some 51, op := _, type := _, pos := _, after := _, guard := _ }) (v := ?v43) rfl (by kernel_rfl) (by kernel_rfl) (by kernel_rfl) (fun _ _ _ h => h) (Or.inl ⟨by rfl, ?y43⟩) (by assumption) ?r43
        case y43 => (intro w hSw; go_simp; try with_reducible rfl)
        try simp only [Act.put, List.setIfInBounds_toArray, List.set_cons_zero, List.set_cons_succ]
        refine wpAnyH_take (i := 4) (oi := { dst := some 53, op := _, type := _, pos := _, after := _, guard := _ }) (v := ?v44) rfl (by kernel_rfl) (by kernel_rfl) (by kernel_rfl) (fun _ _ _ h => h) (Or.inl ⟨by rfl, ?y44⟩) (by assumption) ?r44
        case y44 => (intro w hSw; go_simp; try with_reducible rfl)
        try simp only [Act.put, List.setIfInBounds_toArray, List.set_cons_zero, List.set_cons_succ]
        refine wpAnyH_take (i := 5) (oi := { dst := some 54, op := _, type := _, pos := _, after := _, guard := _ }) (v := ?v45) rfl (by kernel_rfl) (by kernel_rfl) (by kernel_rfl) (fun _ _ _ h => h) (Or.inl ⟨by rfl, ?y45⟩) (by assumption) ?r45
        case y45 => (intro w hSw; go_simp; try with_reducible rfl)
        try simp only [Act.put, List.setIfInBounds_toArray, List.set_cons_zero, List.set_cons_succ]
        refine wpAnyH_take (i := 6) (oi := { dst := some 55, op := _, type := _, pos := _, after := _, guard := _ }) (v := ?v46) rfl (by kernel_rfl) (by kernel_rfl) (by kernel_rfl) (fun _ _ _ h => h) (Or.inl ⟨by rfl, ?y46⟩) (by assumption) ?r46
        case y46 => (intro w hSw; go_simp; try with_reducible rfl)
        try simp only [Act.put, List.setIfInBounds_toArray, List.set_cons_zero, List.set_cons_succ]
        refine wpAnyH_take (i := 8) (oi := { dst := some 57, op := _, type := _, pos := _, after := _, guard := _ }) (v := ?v47) rfl (by kernel_rfl) (by kernel_rfl) (by kernel_rfl) (fun _ _ _ h => h) (Or.inl ⟨by rfl, ?y47⟩) (by assumption) ?r47
        case y47 => (intro w hSw; go_simp; try with_reducible rfl)
        try simp only [Act.put, List.setIfInBounds_toArray, List.set_cons_zero, List.set_cons_succ]
        refine wpAnyH_ready (rs := [3]) (by kernel_rfl) (by simp) (AllReadyH.cons (o := _) rfl (fun K hK => ?_) AllReadyH.nil)
        go_simp
        (go_at_call 62; (with_reducible refine (HV1.out _).mono ?_); rintro x w8 ⟨rfl, hw8⟩; subst hw8)
        try go_wp2_with fail
        refine hK.out _ _ (trivial) (fun hHeld => ?_)
        clear hK K
        try simp only [Act.put, List.setIfInBounds_toArray, List.set_cons_zero, List.set_cons_succ]
        refine wpAnyH_ready (rs := [7]) (by kernel_rfl) (by simp) (AllReadyH.cons (o := _) rfl (fun K hK => ?_) AllReadyH.nil)
        go_simp
        (go_at_call 62; (with_reducible refine (HV9.out _).mono ?_); rintro x w8 ⟨rfl, hw8⟩; subst hw8)
        try go_wp2_with fail
        refine hK.out _ _ (trivial) (fun hHeld => ?_)
        clear hK K
        try simp only [Act.put, List.setIfInBounds_toArray, List.set_cons_zero, List.set_cons_succ]
        refine wpAnyH_ready (rs := [9]) (by kernel_rfl) (by simp) (AllReadyH.cons (o := _) rfl (fun K hK => ?_) AllReadyH.nil)
        go_simp
        refine hK.out _ _ (trivial) (fun hHeld => ?_)
        clear hK K
        try simp only [Act.put, List.setIfInBounds_toArray, List.set_cons_zero, List.set_cons_succ]
        have Ha := Lib.hid (Hs.out.set 1 (.int .i64 3) (tkC_ver _ _ _ _) HO.out (AdsT.nil _) (RcT.nil _))
        simp only at Ha
        generalize World.setCell _ ⟨m, 1, none⟩ _ = Wa at Ha ⊢
        clear k1 k2 k3 k4 k5 k6 k7 k8 k9 ka kb kc kf
        obtain ⟨k1, k2, k3, k4, k5, k6, k7, k8, k9, ka, kb, kc, kf⟩ := Ha.out.cells
        try simp only at k1 k2 k3 k4 k5 k8 k9 ka kb kc
        refine wpAnyH_take (i := 10) (oi := { dst := some 58, op := _, type := _, pos := _, after := _, guard := _ }) (v := ?v48) rfl (by kernel_rfl) (by kernel_rfl) (by kernel_rfl) (fun _ _ _ h => h) (Or.inl ⟨by rfl, ?y48⟩) (by assumption) ?r48
        case y48 => (intro w hSw; go_simp; try with_reducible rfl)
        try simp only [Act.put, List.setIfInBounds_toArray, List.set_cons_zero, List.set_cons_succ]
        refine wpAnyH_ready (rs := [11]) (by kernel_rfl) (by simp) (AllReadyH.cons (o := _) rfl (fun K hK => ?_) AllReadyH.nil)
        go_simp
        refine hK.out _ _ (trivial) (fun hHeld => ?_)
        clear hK K
        try simp only [Act.put, List.setIfInBounds_toArray, List.set_cons_zero, List.set_cons_succ]
        have Hb := Lib.hid (Ha.out.set 3 (.int .i64 (V1 : Nat)) (tkC_resp _ _ _ _) HO.out (AdsT.nil _) (RcT.nil _))
        simp only at Hb
        generalize World.setCell _ ⟨m, 3, none⟩ _ = Wb at Hb ⊢
        clear k1 k2 k3 k4 k5 k6 k7 k8 k9 ka kb kc kf
        obtain ⟨k1, k2, k3, k4, k5, k6, k7, k8, k9, ka, kb, kc, kf⟩ := Hb.out.cells
        try simp only at k1 k2 k3 k4 k5 k8 k9 ka kb kc
        refine wpAnyH_take (i := 12) (oi := { dst := some 59, op := _, type := _, pos := _, after := _, guard := _ }) (v := ?v49) rfl (by kernel_rfl) (by kernel_rfl) (by kernel_rfl) (fun _ _ _ h => h) (Or.inl ⟨by rfl, ?y49⟩) (by assumption) ?r49
        case y49 => (intro w hSw; go_simp; try with_reducible rfl)
        try simp only [Act.put, List.setIfInBounds_toArray, List.set_cons_zero, List.set_cons_succ]
        refine wpAnyH_ready (rs := [13]) (by kernel_rfl) (by simp) (AllReadyH.cons (o := _) rfl (fun K hK => ?_) AllReadyH.nil)
        go_simp
        refine hK.out _ _ (trivial) (fun hHeld => ?_)
        clear hK K
        try simp only [Act.put, List.setIfInBounds_toArray, List.set_cons_zero, List.set_cons_succ]
        have Hc := Lib.hid (Hb.out.set 23 (.int .i64 (V9 : Nat)) (tkC_every _ _ _ HO.out _) HO.out (AdsT.nil _) (RcT.nil _))
        simp only at Hc
        generalize World.setCell _ ⟨m, 23, none⟩ _ = Wc at Hc ⊢
        clear k1 k2 k3 k4 k5 k6 k7 k8 k9 ka kb kc kf
        obtain ⟨k1, k2, k3, k4, k5, k6, k7, k8, k9, ka, kb, kc, kf⟩ := Hc.out.cells
        try simp only at k1 k2 k3 k4 k5 k8 k9 ka kb kc
        refine wpAnyH_done (by kernel_rfl) ?_ _
        go_upto_region 13 with (fail)
        refine wp_region_held_drew (S := fun _ => True) (by kernel_rfl) (trivial) (fun hHeld => ?_)
        have Ht := Lib.hid (show QT w Wc.drew m _ _ _ p _ _ from Hc.out.below ⟨rfl, rfl, rfl, Nat.le_refl _, fun _ _ => rfl⟩)
        generalize World.drew Wc = Wg at Ht ⊢
        clear k1 k2 k3 k4 k5 k6 k7 k8 k9 ka kb kc kf
        obtain ⟨k1, k2, k3, k4, k5, k6, k7, k8, k9, ka, kb, kc, kf⟩ := Ht.out.cells
        try simp only at k1 k2 k3 k4 k5 k8 k9 ka kb kc
        refine wpAnyH_take (i := 0) (oi := { dst := some 60, op := _, type := _, pos := _, after := _, guard := _ }) (v := ?v71) rfl (by kernel_rfl) (by kernel_rfl) (by kernel_rfl) (fun _ _ _ h => h) (Or.inl ⟨by rfl, ?y71⟩) (by assumption) ?r71
        case y71 => (intro w hSw; go_simp; try with_reducible rfl)
        try simp only [Act.put, List.setIfInBounds_toArray, List.set_cons_zero, List.set_cons_succ]
        refine wpAnyH_take (i := 1) (oi := { dst := some 61, op := _, type := _, pos := _, after := _, guard := _ }) (v := ?v72) rfl (by kernel_rfl) (by kernel_rfl) (by kernel_rfl) (fun _ _ _ h => h) (Or.inl ⟨by rfl, ?y72⟩) (by assumption) ?r72
        case y72 => (intro w hSw; go_simp; try with_reducible rfl)
        try simp only [Act.put, List.setIfInBounds_toArray, List.set_cons_zero, List.set_cons_succ]
        refine wpAnyH_take (i := 2) (oi := { dst := some 62, op := _, type := _, pos := _, after := _, guard := _ }) (v := ?v73) rfl (by kernel_rfl) (by kernel_rfl) (by kernel_rfl) (fun _ _ _ h => h) (Or.inl ⟨by rfl, ?y73⟩) (by assumption) ?r73
        case y73 => (intro w hSw; go_simp; try with_reducible rfl)
        try simp only [Act.put, List.setIfInBounds_toArray, List.set_cons_zero, List.set_cons_succ]
        refine wpAnyH_take (i := 3) (oi := { dst := some 63, op := _, type := _, pos := _, after := _, guard := _ }) (v := ?v74) rfl (by kernel_rfl) (by kernel_rfl) (by kernel_rfl) (fun _ _ _ h => h) (Or.inl ⟨by rfl, ?y74⟩) (by assumption) ?r74
        case y74 => (intro w hSw; go_simp; try with_reducible rfl)
        try simp only [Act.put, List.setIfInBounds_toArray, List.set_cons_zero, List.set_cons_succ]
        refine wpAnyH_take (i := 4) (oi := { dst := some 64, op := _, type := _, pos := _, after := _, guard := _ }) (v := ?v75) rfl (by kernel_rfl) (by kernel_rfl) (by kernel_rfl) (fun _ _ _ h => h) (Or.inl ⟨by rfl, ?y75⟩) (by assumption) ?r75
        case y75 => (intro w hSw; go_simp; try with_reducible rfl)
        try simp only [Act.put, List.setIfInBounds_toArray, List.set_cons_zero, List.set_cons_succ]
        refine wpAnyH_take (i := 5) (oi := { dst := some 65, op := _, type := _, pos := _, after := _, guard := _ }) (v := ?v76) rfl (by kernel_rfl) (by kernel_rfl) (by kernel_rfl) (fun _ _ _ h => h) (Or.inl ⟨by rfl, ?y76⟩) (by assumption) ?r76
        case y76 => (intro w hSw; go_simp; try with_reducible rfl)
        try simp only [Act.put, List.setIfInBounds_toArray, List.set_cons_zero, List.set_cons_succ]
        refine wpAnyH_take (i := 6) (oi := { dst := some 66, op := _, type := _, pos := _, after := _, guard := _ }) (v := ?v77) rfl (by kernel_rfl) (by kernel_rfl) (by kernel_rfl) (fun _ _ _ h => h) (Or.inl ⟨by rfl, ?y77⟩) (by assumption) ?r77
        case y77 => (intro w hSw; go_simp; try with_reducible rfl)
        try simp only [Act.put, List.setIfInBounds_toArray, List.set_cons_zero, List.set_cons_succ]
        refine wpAnyH_take (i := 7) (oi := { dst := some 67, op := _, type := _, pos := _, after := _, guard := _ }) (v := ?v78) rfl (by kernel_rfl) (by kernel_rfl) (by kernel_rfl) (fun _ _ _ h => h) (Or.inl ⟨by rfl, ?y78⟩) (by assumption) ?r78
        case y78 => (intro w hSw; go_simp; try with_reducible rfl)
        try simp only [Act.put, List.setIfInBounds_toArray, List.set_cons_zero, List.set_cons_succ]
        refine wpAnyH_take (i := 8) (oi := { dst := some 68, op := _, type := _, pos := _, after := _, guard := _ }) (v := ?v79) rfl (by kernel_rfl) (by kernel_rfl) (by kernel_rfl) (fun _ _ _ h => h) (Or.inl ⟨by rfl, ?y79⟩) (by assumption) ?r79
        case y79 => (intro w hSw; go_simp; try with_reducible rfl)
        try simp only [Act.put, List.setIfInBounds_toArray, List.set_cons_zero, List.set_cons_succ]
        refine wpAnyH_take (i := 9) (oi := { dst := some 69, op := _, type := _, pos := _, after := _, guard := _ }) (v := ?v80) rfl (by kernel_rfl) (by kernel_rfl) (by kernel_rfl) (fun _ _ _ h => h) (Or.inl ⟨by rfl, ?y80⟩) (by assumption) ?r80
        case y80 => (intro w hSw; go_simp; try with_reducible rfl)
        try simp only [Act.put, List.setIfInBounds_toArray, List.set_cons_zero, List.set_cons_succ]
        refine wpAnyH_ready (rs := [10]) (by kernel_rfl) (by simp) (AllReadyH.cons (o := _) rfl (fun K hK => ?_) AllReadyH.nil)
        go_simp
        refine hK.out _ _ (trivial) (fun hHeld => ?_)
        clear hK K
        try simp only [Act.put, List.setIfInBounds_toArray, List.set_cons_zero, List.set_cons_succ]
        have Hd := Lib.hid (Ht.out.set 21 (.bool qb) (tkC_quiet _ _ _ HO.out _) HO.out (AdsT.nil _) (RcT.nil _))
        simp only at Hd
        generalize World.setCell _ ⟨m, 21, none⟩ _ = We at Hd ⊢
        clear k1 k2 k3 k4 k5 k6 k7 k8 k9 ka kb kc kf
        obtain ⟨k1, k2, k3, k4, k5, k6, k7, k8, k9, ka, kb, kc, kf⟩ := Hd.out.cells
        try simp only at k1 k2 k3 k4 k5 k8 k9 ka kb kc
        refine wpAnyH_take (i := 11) (oi := { dst := some 70, op := _, type := _, pos := _, after := _, guard := _ }) (v := ?v81) rfl (by kernel_rfl) (by kernel_rfl) (by kernel_rfl) (fun _ _ _ h => h) (Or.inl ⟨by rfl, ?y81⟩) (by assumption) ?r81
        case y81 => (intro w hSw; go_simp; try with_reducible rfl)
        try simp only [Act.put, List.setIfInBounds_toArray, List.set_cons_zero, List.set_cons_succ]
        refine wpAnyH_ready (rs := [12]) (by kernel_rfl) (by simp) (AllReadyH.cons (o := _) rfl (fun K hK => ?_) AllReadyH.nil)
        go_simp
        refine hK.out _ _ (trivial) (fun hHeld => ?_)
        clear hK K
        try simp only [Act.put, List.setIfInBounds_toArray, List.set_cons_zero, List.set_cons_succ]
        have He := Lib.hid (Hd.out.set 22 (.int .i64 (r8 : Nat)) (tkC_rob _ _ _ HO.out _) HO.out (AdsT.nil _) (RcT.nil _))
        simp only at He
        generalize World.setCell _ ⟨m, 22, none⟩ _ = Wf at He ⊢
        clear k1 k2 k3 k4 k5 k6 k7 k8 k9 ka kb kc kf
        obtain ⟨k1, k2, k3, k4, k5, k6, k7, k8, k9, ka, kb, kc, kf⟩ := He.out.cells
        try simp only at k1 k2 k3 k4 k5 k8 k9 ka kb kc
        have rz := He.out.rowz
        refine wpAnyH_done (by kernel_rfl) ?_ _
        by_cases n0 : 0 < n10
        · have tn : (0 : Int) < (n10 : Int) := by omega
          have N0 := Lib.hid n0
          go_upto_region 16 with (go_at_call 60; (with_reducible refine (HN10.out _).mono ?_); rintro x w9 ⟨rfl, hw9⟩; subst hw9)
          have hfk := He.out.fok
          try simp only at hfk
          repeat (first | go_values | go_skip | go_guarded | go_step | go_upon | go_in)
          obtain ⟨qr1, qr2⟩ := He.out.ret (s := s) (e := 2) (by rw [HQ.out, if_neg hA, if_neg (by rintro ⟨h, _⟩; exact h ZG.out), if_neg L8.out, if_pos ⟨ZG.out, HN.out ▸ N0.out⟩]) (fun h => absurd h (by omega))
          exact bodyPost_ret (results_cell2 Try.results21 rfl (ld_some qr1 (ldr_tk _ _ _))) rfl qr2
        · have tn : ¬ (0 : Int) < (n10 : Int) := by omega
          have N0 := Lib.hid n0
          clear n0
          go_upto_region 19 with (first | (go_at_call 60; (with_reducible refine (HN10.out _).mono ?_); rintro x w9 ⟨rfl, hw9⟩; subst hw9) | (go_at_call 63; (with_reducible refine (HSR.out _).mono ?_); rintro x wh ⟨v5, l5, rfl, hb5, ha5, hs5⟩; obtain ⟨pp5, cc5, ev5, hl5, hc5⟩ := ha5.1.len; subst ev5; have Hh := Lib.hid (He.out.below hb5); have HA5 := Lib.hid (show AdsT wh (.slice pp5 l5.length cc5) l5 from ha5); have HS5 := Lib.hid hs5; clear hb5 ha5 hs5 k1 k2 k3 k4 k5 k6 k7 k8 k9 ka kb kc kf rz; obtain ⟨k1, k2, k3, k4, k5, k6, k7, k8, k9, ka, kb, kc, kf⟩ := Hh.out.cells; have rz := Hh.out.rowz; try simp only at k1 k2 k3 k4 k5 k8 k9 ka kb kc))
          have Hi := Lib.hid (Hh.out.set 24 (.slice pp5 l5.length cc5) (tkC_src _ _ _ HO.out (.slice pp5 l5.length cc5) l5) HO.out (by simpa using HA5.out) (RcT.nil _))
          simp only at Hi
          clear k1 k2 k3 k4 k5 k6 k7 k8 k9 ka kb kc kf rz
          generalize World.setCell _ ⟨m, 24, none⟩ _ = Wi at Hi ⊢
          obtain ⟨k1, k2, k3, k4, k5, k6, k7, k8, k9, ka, kb, kc, kf⟩ := Hi.out.cells
          have rz := Hi.out.rowz
          have hfk := Hi.out.fok
          try simp only at k1 k2 k3 k4 k5 k8 k9 ka kb kc hfk
          repeat (first | go_values | go_skip | go_guarded | go_step | go_upon | go_in)
          obtain ⟨qr1, qr2⟩ := Hi.out.ret (s := s) (e := srcsE s 12 n10) (by rw [HQ.out, if_neg hA, if_neg (by rintro ⟨h, _⟩; exact h ZG.out), if_neg L8.out, if_neg (by rintro ⟨_, h⟩; exact N0.out (HN.out ▸ h)), ← HN.out]; exact snd_ite8 _ _ _) (fun h => by rw [HQ.out, if_neg hA, if_neg (by rintro ⟨h, _⟩; exact h ZG.out), if_neg L8.out, if_neg (by rintro ⟨_, h⟩; exact N0.out (HN.out ▸ h)), ← HN.out, if_neg (by rw [h]; simp), ← HB1'.out, ← HE1.out, ← HB9.out, ← HE9.out, ← HQB.out, ← HR8.out, HS5.out h])
          exact bodyPost_ret (results_cell2 Try.results21 rfl (ld_some qr1 (ldr_tk _ _ _))) rfl qr2
      · rw [decide_eq_false zg] at q
        have ZG := Lib.hid zg
        clear zg
        cases hgg : grp8 G with
        | false =>
          rw [hgg] at HG
          have HGG := Lib.hid hgg
          clear hgg
          go_upto_region 5 with (go_at_call 24; (with_reducible refine (HG.out _).mono ?_); rintro x w7 ⟨rfl, hb7⟩; have H2 := Lib.hid (H1.out.below hb7); clear hb7 k1 k2 k3 k4 k5 k6 k7 k8 k9 ka kb kc kf rz; obtain ⟨k1, k2, k3, k4, k5, k6, k7, k8, k9, ka, kb, kc, kf⟩ := H2.out.cells; have rz := H2.out.rowz; try simp only at k1 k2 k3 k4 k5 k8 k9 ka kb kc)
          repeat (first | go_values | go_skip | go_guarded | go_step | go_upon | go_in)
          obtain ⟨qr1, qr2⟩ := H2.out.ret (s := s) (e := 2) (by rw [HQ.out, if_neg hA, if_pos ⟨ZG.out, HGG.out⟩]) (fun h => absurd h (by omega))
          exact bodyPost_ret (results_cell2 Try.results21 rfl (ld_some qr1 (ldr_tk _ _ _))) rfl qr2
        | true =>
          rw [hgg] at HG
          have HGG := Lib.hid hgg
          clear hgg
          go_upto_region 6 with (go_at_call 24; (with_reducible refine (HG.out _).mono ?_); rintro x w7 ⟨rfl, hb7⟩; have H2 := Lib.hid (H1.out.below hb7); clear hb7 k1 k2 k3 k4 k5 k6 k7 k8 k9 ka kb kc kf rz; obtain ⟨k1, k2, k3, k4, k5, k6, k7, k8, k9, ka, kb, kc, kf⟩ := H2.out.cells; have rz := H2.out.rowz; try simp only at k1 k2 k3 k4 k5 k8 k9 ka kb kc)
          have i9 : (9 : Int) < (s.length : Int) := by omega
          have i8 : (8 : Int) < (s.length : Int) := by omega
          have e9 := Str_at s 9 (by rw [Str_size]; omega)
          have e8 := Str_at s 8 (by rw [Str_size]; omega)
          have b9l := by8_lt s 9
          have b8l := by8_lt s 8
          obtain ⟨b9, hb9⟩ : ∃ b, b = by8 s 9 := ⟨_, rfl⟩
          obtain ⟨b8, hb8⟩ : ∃ b, b = by8 s 8 := ⟨_, rfl⟩
          rw [← hb9] at e9 b9l
          rw [← hb8] at e8 b8l
          have HB9 := Lib.hid hb9
          have HB8 := Lib.hid hb8
          clear hb9 hb8
          have v9 : IntKind.i64.wrap (b9 : Int) = (b9 : Int) := by simp only [IntKind.wrap_i64]; omega
          obtain ⟨V1, hV1⟩ : ∃ v, v = valN b1 16 := ⟨_, rfl⟩
          obtain ⟨V9, hV9⟩ : ∃ v, v = valN b9 16 := ⟨_, rfl⟩
          have HE1 := Lib.hid hV1
          have HE9 := Lib.hid hV9
          clear hV1 hV9
          have HV1 : Hid (∀ W, Calls Try.prog 62 #[.int .i64 b1] W fun x w' => x = .returned (.int .i64 V1) ∧ w' = W) := Lib.hid fun W => (rvalue8 b1 W).mono fun _ _ h => by
            rw [show clampN ((b1 : Nat) : Int) 255 = b1 by unfold clampN; split <;> omega, ← HE1.out] at h
            exact ⟨h.1, h.2.symm⟩
          have HV9 : Hid (∀ W, Calls Try.prog 62 #[.int .i64 b9] W fun x w' => x = .returned (.int .i64 V9) ∧ w' = W) := Lib.hid fun W => (rvalue8 b9 W).mono fun _ _ h => by
            rw [show clampN ((b9 : Nat) : Int) 255 = b9 by unfold clampN; split <;> omega, ← HE9.out] at h
            exact ⟨h.1, h.2.symm⟩
          obtain ⟨c8, hc8⟩ : ∃ c, c = b8 / 8 := ⟨_, rfl⟩
          obtain ⟨d8, hd8⟩ : ∃ c, c = c8 % 2 := ⟨_, rfl⟩
          obtain ⟨r8, hr8⟩ : ∃ c, c = b8 % 8 := ⟨_, rfl⟩
          obtain ⟨qb, hqb⟩ : ∃ q, q = ((d8 : Int) == 1) := ⟨_, rfl⟩
          have t81 : (b8 : Int).tdiv 8 = (c8 : Int) := by rw [hc8]; rfl
          have t82 : (b8 : Int) / 8 = (c8 : Int) := by rw [hc8]; rfl
          have t83 : (c8 : Int).tmod 2 = (d8 : Int) := by rw [hd8]; rfl
          have t84 : (c8 : Int) % 2 = (d8 : Int) := by rw [hd8]; rfl
          have t85 : (b8 : Int).tmod 8 = (r8 : Int) := by rw [hr8]; rfl
          have t86 : (b8 : Int) % 8 = (r8 : Int) := by rw [hr8]; rfl
          have y81 : IntKind.u8.wrap (c8 : Int) = (c8 : Int) := by simp only [IntKind.wrap_u8]; omega
          have y82 : IntKind.u8.wrap (d8 : Int) = (d8 : Int) := by simp only [IntKind.wrap_u8]; omega
          have y83 : IntKind.u8.wrap (r8 : Int) = (r8 : Int) := by simp only [IntKind.wrap_u8]; omega
          have y84 : IntKind.i64.wrap (r8 : Int) = (r8 : Int) := by simp only [IntKind.wrap_i64]; omega
          have tqb : ((d8 : Int) == 1) = qb := hqb.symm
          have HQB := Lib.hid (show qb = decide (by8 s 8 / 8 % 2 = 1) by rw [hqb, hd8, hc8, HB8.out, Bool.eq_iff_iff]; simp; omega)
          have HR8 := Lib.hid (show r8 = by8 s 8 % 8 by rw [hr8, HB8.out])
          clear hc8 hd8 hr8 hqb
          have n10l := wd_lt s 10 (by omega)
          have HN10 : Hid (∀ W, Calls Try.prog 60 #[.string ((Str s).extract 10 12)] W fun x w' => x = .returned (.int .u64 (wd s 10)) ∧ w' = W) := Lib.hid fun W => rnum3 s hs 10 12 W
          have vn : IntKind.i64.wrap (wd s 10 : Int) = (wd s 10 : Int) := by simp only [IntKind.wrap_i64]; omega
          have hi12 : (12 : Int) ≤ (s.length : Int) := by omega
          have HSR : Hid (∀ W, Calls Try.prog 63 #[.string (Str s), .int .i64 12, .int .i64 (wd s 10 : Nat)] W fun x w' => SrcP W s 12 (wd s 10) x w') := Lib.hid fun W => rsources_any s hs 12 (wd s 10) (by omega) (by omega) W
          obtain ⟨n10, hn10⟩ : ∃ n, n = wd s 10 := ⟨_, rfl⟩
          rw [← hn10] at HN10 vn HSR n10l
          have HN := Lib.hid hn10
          clear hn10
          go_upto_region 12 with (fail)
          refine wp_region_held_drew (S := fun _ => True) (by kernel_rfl) (trivial) (fun hHeld => ?_)
          have Hs := Lib.hid (show QT w w7.drew m _ _ _ p _ _ from H2.out.below ⟨rfl, rfl, rfl, Nat.le_refl _, fun _ _ => rfl⟩)
          generalize World.drew w7 = Wd at Hs ⊢
          clear k1 k2 k3 k4 k5 k6 k7 k8 k9 ka kb kc kf
          obtain ⟨k1, k2, k3, k4, k5, k6, k7, k8, k9, ka, kb, kc, kf⟩ := Hs.out.cells
          try simp only at k1 k2 k3 k4 k5 k8 k9 ka kb kc
          refine wpAnyH_take (i := 0) (oi := { dst := some 49, op := _, type := _, pos := _, after := _, guard := _ }) (v := ?v141) rfl (by kernel_rfl) (by kernel_rfl) (by kernel_rfl) (fun _ _ _ h => h) (Or.inl ⟨by rfl, ?y141⟩) (by assumption) ?r141
          case y141 => (intro w hSw; go_simp; try with_reducible rfl)
          try simp only [Act.put, List.setIfInBounds_toArray, List.set_cons_zero, List.set_cons_succ]
          refine wpAnyH_take (i := 1) (oi := { dst := some 50, op := _, type := _, pos := _, after := _, guard := _ }) (v := ?v142) rfl (by kernel_rfl) (by kernel_rfl) (by kernel_rfl) (fun _ _ _ h => h) (Or.inl ⟨by rfl, ?y142⟩) (by assumption) ?r142
          case y142 => (intro w hSw; go_simp; try with_reducible rfl)
          try simp only [Act.put, List.setIfInBounds_toArray, List.set_cons_zero, List.set_cons_succ]
          refine wpAnyH_take (i := 2) (oi := { dst := some 51, op := _, type := _, pos := _, after := _, guard := _ }) (v := ?v143) rfl (by kernel_rfl) (by kernel_rfl) (by kernel_rfl) (fun _ _ _ h => h) (Or.inl ⟨by rfl, ?y143⟩) (by assumption) ?r143
          case y143 => (intro w hSw; go_simp; try with_reducible rfl)
          try simp only [Act.put, List.setIfInBounds_toArray, List.set_cons_zero, List.set_cons_succ]
          refine wpAnyH_take (i := 4) (oi := { dst := some 53, op := _, type := _, pos := _, after := _, guard := _ }) (v := ?v144) rfl (by kernel_rfl) (by kernel_rfl) (by kernel_rfl) (fun _ _ _ h => h) (Or.inl ⟨by rfl, ?y144⟩) (by assumption) ?r144
          case y144 => (intro w hSw; go_simp; try with_reducible rfl)
          try simp only [Act.put, List.setIfInBounds_toArray, List.set_cons_zero, List.set_cons_succ]
          refine wpAnyH_take (i := 5) (oi := { dst := some 54, op := _, type := _, pos := _, after := _, guard := _ }) (v := ?v145) rfl (by kernel_rfl) (by kernel_rfl) (by kernel_rfl) (fun _ _ _ h => h) (Or.inl ⟨by rfl, ?y145⟩) (by assumption) ?r145
          case y145 => (intro w hSw; go_simp; try with_reducible rfl)
          try simp only [Act.put, List.setIfInBounds_toArray, List.set_cons_zero, List.set_cons_succ]
          refine wpAnyH_take (i := 6) (oi := { dst := some 55, op := _, type := _, pos := _, after := _, guard := _ }) (v := ?v146) rfl (by kernel_rfl) (by kernel_rfl) (by kernel_rfl) (fun _ _ _ h => h) (Or.inl ⟨by rfl, ?y146⟩) (by assumption) ?r146
          case y146 => (intro w hSw; go_simp; try with_reducible rfl)
          try simp only [Act.put, List.setIfInBounds_toArray, List.set_cons_zero, List.set_cons_succ]
          refine wpAnyH_take (i := 8) (oi := { dst := some 57, op := _, type := _, pos := _, after := _, guard := _ }) (v := ?v147) rfl (by kernel_rfl) (by kernel_rfl) (by kernel_rfl) (fun _ _ _ h => h) (Or.inl ⟨by rfl, ?y147⟩) (by assumption) ?r147
          case y147 => (intro w hSw; go_simp; try with_reducible rfl)
          try simp only [Act.put, List.setIfInBounds_toArray, List.set_cons_zero, List.set_cons_succ]
          refine wpAnyH_ready (rs := [3]) (by kernel_rfl) (by simp) (AllReadyH.cons (o := _) rfl (fun K hK => ?_) AllReadyH.nil)
          go_simp
          (go_at_call 62; (with_reducible refine (HV1.out _).mono ?_); rintro x w8 ⟨rfl, hw8⟩; subst hw8)
          try go_wp2_with fail
          refine hK.out _ _ (trivial) (fun hHeld => ?_)
          clear hK K
          try simp only [Act.put, List.setIfInBounds_toArray, List.set_cons_zero, List.set_cons_succ]
          refine wpAnyH_ready (rs := [7]) (by kernel_rfl) (by simp) (AllReadyH.cons (o := _) rfl (fun K hK => ?_) AllReadyH.nil)
          go_simp
          (go_at_call 62; (with_reducible refine (HV9.out _).mono ?_); rintro x w8 ⟨rfl, hw8⟩; subst hw8)
          try go_wp2_with fail
          refine hK.out _ _ (trivial) (fun hHeld => ?_)
          clear hK K
          try simp only [Act.put, List.setIfInBounds_toArray, List.set_cons_zero, List.set_cons_succ]
          refine wpAnyH_ready (rs := [9]) (by kernel_rfl) (by simp) (AllReadyH.cons (o := _) rfl (fun K hK => ?_) AllReadyH.nil)
          go_simp
          refine hK.out _ _ (trivial) (fun hHeld => ?_)
          clear hK K
          try simp only [Act.put, List.setIfInBounds_toArray, List.set_cons_zero, List.set_cons_succ]
          have Ha := Lib.hid (Hs.out.set 1 (.int .i64 3) (tkC_ver _ _ _ _) HO.out (AdsT.nil _) (RcT.nil _))
          simp only at Ha
          generalize World.setCell _ ⟨m, 1, none⟩ _ = Wa at Ha ⊢
          clear k1 k2 k3 k4 k5 k6 k7 k8 k9 ka kb kc kf
          obtain ⟨k1, k2, k3, k4, k5, k6, k7, k8, k9, ka, kb, kc, kf⟩ := Ha.out.cells
          try simp only at k1 k2 k3 k4 k5 k8 k9 ka kb kc
          refine wpAnyH_take (i := 10) (oi := { dst := some 58, op := _, type := _, pos := _, after := _, guard := _ }) (v := ?v148) rfl (by kernel_rfl) (by kernel_rfl) (by kernel_rfl) (fun _ _ _ h => h) (Or.inl ⟨by rfl, ?y148⟩) (by assumption) ?r148
          case y148 => (intro w hSw; go_simp; try with_reducible rfl)
          try simp only [Act.put, List.setIfInBounds_toArray, List.set_cons_zero, List.set_cons_succ]
          refine wpAnyH_ready (rs := [11]) (by kernel_rfl) (by simp) (AllReadyH.cons (o := _) rfl (fun K hK => ?_) AllReadyH.nil)
          go_simp
          refine hK.out _ _ (trivial) (fun hHeld => ?_)
          clear hK K
          try simp only [Act.put, List.setIfInBounds_toArray, List.set_cons_zero, List.set_cons_succ]
          have Hb := Lib.hid (Ha.out.set 3 (.int .i64 (V1 : Nat)) (tkC_resp _ _ _ _) HO.out (AdsT.nil _) (RcT.nil _))
          simp only at Hb
          generalize World.setCell _ ⟨m, 3, none⟩ _ = Wb at Hb ⊢
          clear k1 k2 k3 k4 k5 k6 k7 k8 k9 ka kb kc kf
          obtain ⟨k1, k2, k3, k4, k5, k6, k7, k8, k9, ka, kb, kc, kf⟩ := Hb.out.cells
          try simp only at k1 k2 k3 k4 k5 k8 k9 ka kb kc
          refine wpAnyH_take (i := 12) (oi := { dst := some 59, op := _, type := _, pos := _, after := _, guard := _ }) (v := ?v149) rfl (by kernel_rfl) (by kernel_rfl) (by kernel_rfl) (fun _ _ _ h => h) (Or.inl ⟨by rfl, ?y149⟩) (by assumption) ?r149
          case y149 => (intro w hSw; go_simp; try with_reducible rfl)
          try simp only [Act.put, List.setIfInBounds_toArray, List.set_cons_zero, List.set_cons_succ]
          refine wpAnyH_ready (rs := [13]) (by kernel_rfl) (by simp) (AllReadyH.cons (o := _) rfl (fun K hK => ?_) AllReadyH.nil)
          go_simp
          refine hK.out _ _ (trivial) (fun hHeld => ?_)
          clear hK K
          try simp only [Act.put, List.setIfInBounds_toArray, List.set_cons_zero, List.set_cons_succ]
          have Hc := Lib.hid (Hb.out.set 23 (.int .i64 (V9 : Nat)) (tkC_every _ _ _ HO.out _) HO.out (AdsT.nil _) (RcT.nil _))
          simp only at Hc
          generalize World.setCell _ ⟨m, 23, none⟩ _ = Wc at Hc ⊢
          clear k1 k2 k3 k4 k5 k6 k7 k8 k9 ka kb kc kf
          obtain ⟨k1, k2, k3, k4, k5, k6, k7, k8, k9, ka, kb, kc, kf⟩ := Hc.out.cells
          try simp only at k1 k2 k3 k4 k5 k8 k9 ka kb kc
          refine wpAnyH_done (by kernel_rfl) ?_ _
          go_upto_region 13 with (fail)
          refine wp_region_held_drew (S := fun _ => True) (by kernel_rfl) (trivial) (fun hHeld => ?_)
          have Ht := Lib.hid (show QT w Wc.drew m _ _ _ p _ _ from Hc.out.below ⟨rfl, rfl, rfl, Nat.le_refl _, fun _ _ => rfl⟩)
          generalize World.drew Wc = Wg at Ht ⊢
          clear k1 k2 k3 k4 k5 k6 k7 k8 k9 ka kb kc kf
          obtain ⟨k1, k2, k3, k4, k5, k6, k7, k8, k9, ka, kb, kc, kf⟩ := Ht.out.cells
          try simp only at k1 k2 k3 k4 k5 k8 k9 ka kb kc
          refine wpAnyH_take (i := 0) (oi := { dst := some 60, op := _, type := _, pos := _, after := _, guard := _ }) (v := ?v171) rfl (by kernel_rfl) (by kernel_rfl) (by kernel_rfl) (fun _ _ _ h => h) (Or.inl ⟨by rfl, ?y171⟩) (by assumption) ?r171
          case y171 => (intro w hSw; go_simp; try with_reducible rfl)
          try simp only [Act.put, List.setIfInBounds_toArray, List.set_cons_zero, List.set_cons_succ]
          refine wpAnyH_take (i := 1) (oi := { dst := some 61, op := _, type := _, pos := _, after := _, guard := _ }) (v := ?v172) rfl (by kernel_rfl) (by kernel_rfl) (by kernel_rfl) (fun _ _ _ h => h) (Or.inl ⟨by rfl, ?y172⟩) (by assumption) ?r172
          case y172 => (intro w hSw; go_simp; try with_reducible rfl)
          try simp only [Act.put, List.setIfInBounds_toArray, List.set_cons_zero, List.set_cons_succ]
          refine wpAnyH_take (i := 2) (oi := { dst := some 62, op := _, type := _, pos := _, after := _, guard := _ }) (v := ?v173) rfl (by kernel_rfl) (by kernel_rfl) (by kernel_rfl) (fun _ _ _ h => h) (Or.inl ⟨by rfl, ?y173⟩) (by assumption) ?r173
          case y173 => (intro w hSw; go_simp; try with_reducible rfl)
          try simp only [Act.put, List.setIfInBounds_toArray, List.set_cons_zero, List.set_cons_succ]
          refine wpAnyH_take (i := 3) (oi := { dst := some 63, op := _, type := _, pos := _, after := _, guard := _ }) (v := ?v174) rfl (by kernel_rfl) (by kernel_rfl) (by kernel_rfl) (fun _ _ _ h => h) (Or.inl ⟨by rfl, ?y174⟩) (by assumption) ?r174
          case y174 => (intro w hSw; go_simp; try with_reducible rfl)
          try simp only [Act.put, List.setIfInBounds_toArray, List.set_cons_zero, List.set_cons_succ]
          refine wpAnyH_take (i := 4) (oi := { dst := some 64, op := _, type := _, pos := _, after := _, guard := _ }) (v := ?v175) rfl (by kernel_rfl) (by kernel_rfl) (by kernel_rfl) (fun _ _ _ h => h) (Or.inl ⟨by rfl, ?y175⟩) (by assumption) ?r175
          case y175 => (intro w hSw; go_simp; try with_reducible rfl)
          try simp only [Act.put, List.setIfInBounds_toArray, List.set_cons_zero, List.set_cons_succ]
          refine wpAnyH_take (i := 5) (oi := { dst := some 65, op := _, type := _, pos := _, after := _, guard := _ }) (v := ?v176) rfl (by kernel_rfl) (by kernel_rfl) (by kernel_rfl) (fun _ _ _ h => h) (Or.inl ⟨by rfl, ?y176⟩) (by assumption) ?r176
          case y176 => (intro w hSw; go_simp; try with_reducible rfl)
          try simp only [Act.put, List.setIfInBounds_toArray, List.set_cons_zero, List.set_cons_succ]
          refine wpAnyH_take (i := 6) (oi := { dst := some 66, op := _, type := _, pos := _, after := _, guard := _ }) (v := ?v177) rfl (by kernel_rfl) (by kernel_rfl) (by kernel_rfl) (fun _ _ _ h => h) (Or.inl ⟨by rfl, ?y177⟩) (by assumption) ?r177
          case y177 => (intro w hSw; go_simp; try with_reducible rfl)
          try simp only [Act.put, List.setIfInBounds_toArray, List.set_cons_zero, List.set_cons_succ]
          refine wpAnyH_take (i := 7) (oi := { dst := some 67, op := _, type := _, pos := _, after := _, guard := _ }) (v := ?v178) rfl (by kernel_rfl) (by kernel_rfl) (by kernel_rfl) (fun _ _ _ h => h) (Or.inl ⟨by rfl, ?y178⟩) (by assumption) ?r178
          case y178 => (intro w hSw; go_simp; try with_reducible rfl)
          try simp only [Act.put, List.setIfInBounds_toArray, List.set_cons_zero, List.set_cons_succ]
          refine wpAnyH_take (i := 8) (oi := { dst := some 68, op := _, type := _, pos := _, after := _, guard := _ }) (v := ?v179) rfl (by kernel_rfl) (by kernel_rfl) (by kernel_rfl) (fun _ _ _ h => h) (Or.inl ⟨by rfl, ?y179⟩) (by assumption) ?r179
          case y179 => (intro w hSw; go_simp; try with_reducible rfl)
          try simp only [Act.put, List.setIfInBounds_toArray, List.set_cons_zero, List.set_cons_succ]
          refine wpAnyH_take (i := 9) (oi := { dst := some 69, op := _, type := _, pos := _, after := _, guard := _ }) (v := ?v180) rfl (by kernel_rfl) (by kernel_rfl) (by kernel_rfl) (fun _ _ _ h => h) (Or.inl ⟨by rfl, ?y180⟩) (by assumption) ?r180
          case y180 => (intro w hSw; go_simp; try with_reducible rfl)
          try simp only [Act.put, List.setIfInBounds_toArray, List.set_cons_zero, List.set_cons_succ]
          refine wpAnyH_ready (rs := [10]) (by kernel_rfl) (by simp) (AllReadyH.cons (o := _) rfl (fun K hK => ?_) AllReadyH.nil)
          go_simp
          refine hK.out _ _ (trivial) (fun hHeld => ?_)
          clear hK K
          try simp only [Act.put, List.setIfInBounds_toArray, List.set_cons_zero, List.set_cons_succ]
          have Hd := Lib.hid (Ht.out.set 21 (.bool qb) (tkC_quiet _ _ _ HO.out _) HO.out (AdsT.nil _) (RcT.nil _))
          simp only at Hd
          generalize World.setCell _ ⟨m, 21, none⟩ _ = We at Hd ⊢
          clear k1 k2 k3 k4 k5 k6 k7 k8 k9 ka kb kc kf
          obtain ⟨k1, k2, k3, k4, k5, k6, k7, k8, k9, ka, kb, kc, kf⟩ := Hd.out.cells
          try simp only at k1 k2 k3 k4 k5 k8 k9 ka kb kc
          refine wpAnyH_take (i := 11) (oi := { dst := some 70, op := _, type := _, pos := _, after := _, guard := _ }) (v := ?v181) rfl (by kernel_rfl) (by kernel_rfl) (by kernel_rfl) (fun _ _ _ h => h) (Or.inl ⟨by rfl, ?y181⟩) (by assumption) ?r181
          case y181 => (intro w hSw; go_simp; try with_reducible rfl)
          try simp only [Act.put, List.setIfInBounds_toArray, List.set_cons_zero, List.set_cons_succ]
          refine wpAnyH_ready (rs := [12]) (by kernel_rfl) (by simp) (AllReadyH.cons (o := _) rfl (fun K hK => ?_) AllReadyH.nil)
          go_simp
          refine hK.out _ _ (trivial) (fun hHeld => ?_)
          clear hK K
          try simp only [Act.put, List.setIfInBounds_toArray, List.set_cons_zero, List.set_cons_succ]
          have He := Lib.hid (Hd.out.set 22 (.int .i64 (r8 : Nat)) (tkC_rob _ _ _ HO.out _) HO.out (AdsT.nil _) (RcT.nil _))
          simp only at He
          generalize World.setCell _ ⟨m, 22, none⟩ _ = Wf at He ⊢
          clear k1 k2 k3 k4 k5 k6 k7 k8 k9 ka kb kc kf
          obtain ⟨k1, k2, k3, k4, k5, k6, k7, k8, k9, ka, kb, kc, kf⟩ := He.out.cells
          try simp only at k1 k2 k3 k4 k5 k8 k9 ka kb kc
          have rz := He.out.rowz
          refine wpAnyH_done (by kernel_rfl) ?_ _
          go_upto_region 19 with (first | (go_at_call 60; (with_reducible refine (HN10.out _).mono ?_); rintro x w9 ⟨rfl, hw9⟩; subst hw9) | (go_at_call 63; (with_reducible refine (HSR.out _).mono ?_); rintro x wh ⟨v5, l5, rfl, hb5, ha5, hs5⟩; obtain ⟨pp5, cc5, ev5, hl5, hc5⟩ := ha5.1.len; subst ev5; have Hh := Lib.hid (He.out.below hb5); have HA5 := Lib.hid (show AdsT wh (.slice pp5 l5.length cc5) l5 from ha5); have HS5 := Lib.hid hs5; clear hb5 ha5 hs5 k1 k2 k3 k4 k5 k6 k7 k8 k9 ka kb kc kf rz; obtain ⟨k1, k2, k3, k4, k5, k6, k7, k8, k9, ka, kb, kc, kf⟩ := Hh.out.cells; have rz := Hh.out.rowz; try simp only at k1 k2 k3 k4 k5 k8 k9 ka kb kc))
          have Hi := Lib.hid (Hh.out.set 24 (.slice pp5 l5.length cc5) (tkC_src _ _ _ HO.out (.slice pp5 l5.length cc5) l5) HO.out (by simpa using HA5.out) (RcT.nil _))
          simp only at Hi
          clear k1 k2 k3 k4 k5 k6 k7 k8 k9 ka kb kc kf rz
          generalize World.setCell _ ⟨m, 24, none⟩ _ = Wi at Hi ⊢
          obtain ⟨k1, k2, k3, k4, k5, k6, k7, k8, k9, ka, kb, kc, kf⟩ := Hi.out.cells
          have rz := Hi.out.rowz
          have hfk := Hi.out.fok
          try simp only at k1 k2 k3 k4 k5 k8 k9 ka kb kc hfk
          repeat (first | go_values | go_skip | go_guarded | go_step | go_upon | go_in)
          obtain ⟨qr1, qr2⟩ := Hi.out.ret (s := s) (e := srcsE s 12 n10) (by rw [HQ.out, if_neg hA, if_neg (by rintro ⟨_, h⟩; rw [HGG.out] at h; exact absurd h (by simp)), if_neg L8.out, if_neg (by rintro ⟨h, _⟩; exact ZG.out h), ← HN.out]; exact snd_ite8 _ _ _) (fun h => by rw [HQ.out, if_neg hA, if_neg (by rintro ⟨_, h⟩; rw [HGG.out] at h; exact absurd h (by simp)), if_neg L8.out, if_neg (by rintro ⟨h, _⟩; exact ZG.out h), ← HN.out, if_neg (by rw [h]; simp), ← HB1'.out, ← HE1.out, ← HB9.out, ← HE9.out, ← HQB.out, ← HR8.out, HS5.out h])
          exact bodyPost_ret (results_cell2 Try.results21 rfl (ld_some qr1 (ldr_tk _ _ _))) rfl qr2
end Go.Proofs.Ytchbkamjmkfikaa
