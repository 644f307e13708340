/-
  Texts joined: MdN, MdC, MdR, MqA, Pseudo.
-/
import Derived.Test.YtgpccgcppbdlpaaMg20
import Derived.Test.YtgpccgcppbdlpaaMg10
import Derived.Test.YtgpccgcppbdlpaaMg12
import Derived.Test.YtgpccgcppbdlpaaMg15
import Derived.Deep.CutRange
import Derived.Deep.LoopGhost
import Derived.Test.YtgpccgcppbdlpaaMg13
import Derived.Test.YtgpccgcppbdlpaaMg05
import Derived.Test.YtgpccgcppbdlpaaMg08
import Derived.Test.YtgpccgcppbdlpaaMg00
import Derived.Deep.RegionHeld3
/-
  The document's own num of layer 9.
-/
namespace Go.Proofs.Ytgpccgcppbdlpaa
open Go.RowKit
set_option linter.unusedVariables false
theorem rnum9_any (n : Nat) (hn : n ≤ 9223372036854775807) (wide : Nat) (hw : wide ≤ 8) (w : World) : Calls Try.prog 23 #[.int .i64 n, .int .i64 wide] w fun x w' => x = .returned (.string (Str (putL n wide))) ∧ Below w.heap.size w w' := by
  have hwr : IntKind.u64.wrap (n : Int) = (n : Int) := by simp only [IntKind.wrap_u64]; omega
  have hc : clampN (wide : Int) 8 = wide := by unfold clampN; split <;> omega
  have HP : Hid (∀ W, Calls Try.prog 62 #[.int .u64 n, .int .i64 wide] W fun e w' => e = .returned (.string (Str (putL n wide))) ∧ Below W.heap.size W w') := Lib.hid fun W => by
    have := rput_any n (by omega) wide W
    rw [hc] at this; exact this
  clear hc hw hn
  go_enter Try.func23, Try.ntmps23
  go_wp2_with (go_at_call 62; (with_reducible refine (HP.out _).mono ?_); rintro x w1 ⟨rfl, hb1⟩; have H1 := Lib.hid hb1; clear hb1)
  go_ret
  exact ⟨rfl, H1.out⟩
end Go.Proofs.Ytgpccgcppbdlpaa

/-
  The document's own sixteen and sources of layer 9.
-/
namespace Go.Proofs.Ytgpccgcppbdlpaa
open Go.RowKit
set_option linter.unusedVariables false
attribute [local go_sem ↓] ld_addr st_addr bld_addr adsLit_eq
attribute [local go_sem] ldr_addr str_addr row?_drewN_eq row?_drew_eq

end Go.Proofs.Ytgpccgcppbdlpaa

/-
  The document's own records of layer 9: the records of a report, read one after the other.
-/
namespace Go.Proofs.Ytgpccgcppbdlpaa
open Go.RowKit
set_option linter.unusedVariables false
set_option linter.unusedSimpArgs false
attribute [local go_sem ↓] ld_addr st_addr bld_addr ld_rec st_rec bld_rec rcsLit_eq
attribute [local go_sem] ldr_addr str_addr ldr_rec str_rec

/-- What is left to read of a report's records. -/
def RS9 (s : List UInt8) (n i m : Nat) (acc : List RC) : Prop := (recL9 s 8 n).2 = (recL9 s i m).2 ∧ ((recL9 s i m).2 = 0 → (recL9 s 8 n).1 = acc ++ (recL9 s i m).1)
theorem RS9.start (s : List UInt8) (n : Nat) : RS9 s n 8 n [] := ⟨rfl, fun _ => by simp⟩
theorem RS9.done {s : List UInt8} {n i : Nat} {acc : List RC} (h : RS9 s n i 0 acc) : recL9 s 8 n = (acc, 0) := by
  obtain ⟨h1, h2⟩ := h
  have e : recL9 s i 0 = ([], 0) := by unfold recL9; rfl
  rw [e] at h1 h2
  exact Prod.ext (by rw [h2 rfl]; simp) h1
theorem RS9.short {s : List UInt8} {n i m : Nat} {acc : List RC} (h : RS9 s n i (m + 1) acc) (h1 : s.length < i + 20) : (recL9 s 8 n).2 = 3 := by
  rw [h.1]; unfold recL9; rw [if_pos h1]
theorem RS9.srcs {s : List UInt8} {n i m : Nat} {acc : List RC} (h : RS9 s n i (m + 1) acc) (h1 : ¬ s.length < i + 20) (h2 : srcsE9 s (i + 20) (wd s (i + 2)) ≠ 0) : (recL9 s 8 n).2 = srcsE9 s (i + 20) (wd s (i + 2)) := by
  rw [h.1]; unfold recL9; rw [if_neg h1, if_pos h2]
theorem RS9.ends {s : List UInt8} {n i m : Nat} {acc : List RC} (h : RS9 s n i (m + 1) acc) (h1 : ¬ s.length < i + 20) (h2 : srcsE9 s (i + 20) (wd s (i + 2)) = 0) (h3 : s.length < recN9 s i) : (recL9 s 8 n).2 = 3 := by
  rw [h.1]; unfold recL9; rw [if_neg h1, if_neg (by rw [h2]; simp), if_pos h3]
theorem RS9.step {s : List UInt8} {n i m : Nat} {acc : List RC} (h : RS9 s n i (m + 1) acc) (h1 : ¬ s.length < i + 20) (h2 : srcsE9 s (i + 20) (wd s (i + 2)) = 0) (h3 : ¬ s.length < recN9 s i) :
    RS9 s n (recN9 s i) m (if rcOk9 (rec9 s i) then acc ++ [rec9 s i] else acc) := by
  obtain ⟨a1, a2⟩ := h
  have e : recL9 s i (m + 1) = if (recL9 s (recN9 s i) m).2 ≠ 0 then ([], (recL9 s (recN9 s i) m).2) else (if rcOk9 (rec9 s i) then rec9 s i :: (recL9 s (recN9 s i) m).1 else (recL9 s (recN9 s i) m).1, 0) := by
    conv => lhs; unfold recL9
    rw [if_neg h1, if_neg (by rw [h2]; simp), if_neg h3]
  rw [e] at a1 a2
  by_cases hz : (recL9 s (recN9 s i) m).2 = 0
  · rw [if_neg (by rw [hz]; simp)] at a1 a2
    refine ⟨by rw [a1, hz], fun _ => ?_⟩
    rw [a2 rfl]
    split <;> simp
  · rw [if_pos hz] at a1
    exact ⟨a1, fun h => absurd h hz⟩
/-- What a report's records come to. -/
def recE9 (s : List UInt8) : Int := if 64 < wd s 6 then 6 else (recL9 s 8 (wd s 6)).2
/-- A record that has been boxed in the region. -/
def RG9 (w0 W : World) (m : Nat) (r : RC) (u : Value) : Prop := RcU W m 0 r u ∧ Below w0.heap.size w0 W ∧ w0.heap.size ≤ m
theorem RG9.below {w0 W W' : World} {m : Nat} {r : RC} {u : Value} (h : RG9 w0 W m r u) (hb : Below W.heap.size W W') : RG9 w0 W' m r u := ⟨h.1.below hb, bstep h.2.1 hb, h.2.2⟩
/-- An alloc, calls behind it or ahead of it, and the store. -/
theorem RG9.put {w0 W1 W2 : World} {r : RC} {u : Value} (h0 : Below w0.heap.size w0 W1) (ho : adOk r.g) (ha : Ads w0 u r.src) (h2 : Below (W1.alloc (.cells #[.int .i64 0, .bool false, .int .u8 0, .int .u8 0, .int .u8 0, .int .u8 0, .int .u8 0, .int .u8 0, .int .u8 0, .int .u8 0, .int .u8 0, .int .u8 0, .int .u8 0, .int .u8 0, .int .u8 0, .int .u8 0, .int .u8 0, .int .u8 0, .slice none 0 0] 41)).heap.size (W1.alloc (.cells #[.int .i64 0, .bool false, .int .u8 0, .int .u8 0, .int .u8 0, .int .u8 0, .int .u8 0, .int .u8 0, .int .u8 0, .int .u8 0, .int .u8 0, .int .u8 0, .int .u8 0, .int .u8 0, .int .u8 0, .int .u8 0, .int .u8 0, .int .u8 0, .slice none 0 0] 41)) W2) : RG9 w0 (aggW W2 W1.heap.size (rcC r u)) W1.heap.size r u := by
  have h1 : Below w0.heap.size w0 (W1.alloc (.cells #[.int .i64 0, .bool false, .int .u8 0, .int .u8 0, .int .u8 0, .int .u8 0, .int .u8 0, .int .u8 0, .int .u8 0, .int .u8 0, .int .u8 0, .int .u8 0, .int .u8 0, .int .u8 0, .int .u8 0, .int .u8 0, .int .u8 0, .int .u8 0, .slice none 0 0] 41)) := h0.alloc h0.size _
  have hb : Below w0.heap.size w0 (aggW W2 W1.heap.size (rcC r u)) := aggW_below (bstep h1 h2) h0.size _
  have hob := ObjAt.made W1 #[.int .i64 0, .bool false, .int .u8 0, .int .u8 0, .int .u8 0, .int .u8 0, .int .u8 0, .int .u8 0, .int .u8 0, .int .u8 0, .int .u8 0, .int .u8 0, .int .u8 0, .int .u8 0, .int .u8 0, .int .u8 0, .int .u8 0, .int .u8 0, .slice none 0 0] 41
  have hob2 := hob.below h2 hob.lt
  have hc := aggW_obj (L := (#[.int .i64 0, .bool false, .int .u8 0, .int .u8 0, .int .u8 0, .int .u8 0, .int .u8 0, .int .u8 0, .int .u8 0, .int .u8 0, .int .u8 0, .int .u8 0, .int .u8 0, .int .u8 0, .int .u8 0, .int .u8 0, .int .u8 0, .int .u8 0, .slice none 0 0] : Array Value).toList) (cs := rcC r u) (by simpa using hob2) (by rw [rcC_length ho]; rfl) (rcC_one ha.one)
  have hf : free? W2 W1.heap.size 0 19 = true := obj_free hob2 (by simp)
  exact ⟨⟨ho, hc.lt, aggW_row hf (rcC_length ho u), ha.below hb⟩, hb, h0.size⟩

end Go.Proofs.Ytgpccgcppbdlpaa

/-
  The document's own reader of all but reports of records, of layer 9.
-/
namespace Go.Proofs.Ytgpccgcppbdlpaa
open Go.RowKit
set_option linter.unusedVariables false
set_option linter.unusedSimpArgs false
attribute [local go_sem ↓] ld_addr st_addr bld_addr ld_tk st_tk bld_tk
attribute [local go_sem] ldr_addr str_addr str_addr_at ldr_tk str_tk

theorem grp9_zer {a : AD} (h : grp9 a = true) : zer9 a = false := by
  unfold grp9 grpV at h
  unfold zer9 z16
  rw [Bool.and_eq_true] at h
  obtain ⟨h1, h2⟩ := h
  rw [h1]
  cases hz : decide (a.2 = List.replicate 16 (0 : UInt8)) with
  | false => rfl
  | true =>
    rw [decide_eq_true_eq] at hz
    rw [h1, hz] at h2
    exact absurd h2 (by decide)
theorem tkC_grp9 (e : TK) (se re : Value) (ho : adOk e.g) (a : AD) (ha : adOk a) : over (tkC e se re) 4 (adC a) = tkC ⟨e.v6, e.ver, e.kind, e.resp, a, e.quiet, e.rob, e.every, e.src, e.rcs⟩ se re := by
  unfold over tkC
  have l1 := adC_length ho
  have l2 := adC_length ha
  rw [l2]
  simp only [List.cons_append, List.nil_append, List.take_succ_cons, List.take_zero, List.drop_succ_cons]
  rw [List.drop_append_of_le_length (by omega), List.drop_of_length_le (by omega)]
  simp
/-- The result's cell and a talk that is being filled. -/
structure QO (w W : World) (m : Nat) (t : TK) (us ur : Value) : Prop where
  res : ObjAt W w.heap.size #[.bool false, .int .i64 0, .int .i64 0, .int .i64 0, .bool false, .int .u8 0, .int .u8 0, .int .u8 0, .int .u8 0, .int .u8 0, .int .u8 0, .int .u8 0, .int .u8 0, .int .u8 0, .int .u8 0, .int .u8 0, .int .u8 0, .int .u8 0, .int .u8 0, .int .u8 0, .int .u8 0, .bool false, .int .i64 0, .int .i64 0, .slice none 0 0, .slice none 0 0] 28
  tk : TkAt W m t us ur
  blw : Below w.heap.size w W
  lt : w.heap.size < m
  src : AdsT W us t.src
  rcs : RcT W ur t.rcs
theorem QO.below {w W W' : World} {m : Nat} {t : TK} {us ur : Value} (h : QO w W m t us ur) (hb : Below W.heap.size W W') : QO w W' m t us ur :=
  ⟨h.res.below hb h.res.lt, h.tk.below hb, bstep h.blw hb, h.lt, h.src.below hb, h.rcs.below hb⟩
theorem QO.done {w W : World} {m : Nat} {t : TK} {us ur : Value} (h : QO w W m t us ur) :
    row? (aggW W w.heap.size (tkC t us ur)) w.heap.size 0 26 = some (tkC t us ur) ∧ Below w.heap.size w (aggW W w.heap.size (tkC t us ur)) ∧ AdsT (aggW W w.heap.size (tkC t us ur)) us t.src ∧ RcT (aggW W w.heap.size (tkC t us ur)) ur t.rcs :=
  ⟨aggW_row (obj_free h.res (by simp)) (tkC_length h.tk.2 _ _), aggW_below h.blw (Nat.le_refl _) _, h.src.grown h.res (aggW_grown _ _ _), h.rcs.grown h.res (aggW_grown _ _ _)⟩
theorem QO.set {w W : World} {m : Nat} {t t' : TK} {us ur us' ur' : Value} (h : QO w W m t us ur) (j : Nat) (v : Value) (e : (tkC t us ur).set j v = tkC t' us' ur') (ho : adOk t'.g) (hs : AdsT W us' t'.src) (hr : RcT W ur' t'.rcs) :
    QO w (W.setCell ⟨m, j, none⟩ v) m t' us' ur' := by
  have hlt := h.lt
  have h1 : ObjAt (W.setCell ⟨m, j, none⟩ v) m (tkC t' us' ur').toArray 28 := by
    have := ObjAt.set h.tk.1 j v
    rw [List.setIfInBounds_toArray, e] at this
    exact this
  exact ⟨h.res.other _ _ (by simp; omega), ⟨h1, ho⟩, h.blw.setCell (p := ⟨m, j, none⟩) (by simp; omega) v, h.lt, hs.grown h.tk.1 (gset W m j v), hr.grown h.tk.1 (gset W m j v)⟩
theorem QO.grp {w W : World} {m : Nat} {t : TK} {us ur : Value} (h : QO w W m t us ur) (a : AD) (ha : adOk a) : QO w (aggO W m 4 (adC a)) m ⟨t.v6, t.ver, t.kind, t.resp, a, t.quiet, t.rob, t.every, t.src, t.rcs⟩ us ur := by
  have hlt := h.lt
  have l1 := tkC_length h.tk.2 us ur
  have h1 := aggO_obj (o := 4) (cs := adC a) h.tk.1 (by rw [l1, adC_length ha]; omega) (addrC_one _ _)
  rw [tkC_grp9 t us ur h.tk.2 a ha] at h1
  have hg : W.grownBy (aggO W m 4 (adC a)) (some m) := by rw [aggO_eq]; exact setCells_grown m _ 4 W
  exact ⟨aggO_other h.res _ (by omega), ⟨h1, ha⟩, aggO_below h.blw (by omega) _ _, h.lt, h.src.grown h.tk.1 hg, h.rcs.grown h.tk.1 hg⟩
/-- What is read of it. -/
def QOC (w W : World) (m : Nat) (t : TK) (us ur : Value) : Prop :=
  W.cell? ⟨m, 1, none⟩ = some (.int .i64 t.ver) ∧ W.cell? ⟨m, 2, none⟩ = some (.int .i64 t.kind) ∧ W.cell? ⟨m, 3, none⟩ = some (.int .i64 t.resp) ∧ row? W m 4 17 = some (adC t.g) ∧ row? W m 0 26 = some (tkC t us ur) ∧ free? W w.heap.size 0 26 = true ∧ free? W m 4 17 = true ∧
  W.cell? ⟨m, 21, none⟩ = some (.bool t.quiet) ∧ W.cell? ⟨m, 22, none⟩ = some (.int .i64 t.rob) ∧ W.cell? ⟨m, 23, none⟩ = some (.int .i64 t.every) ∧ W.cell? ⟨m, 24, none⟩ = some us ∧ W.cell? ⟨m, 25, none⟩ = some ur ∧ (∀ j, W.frozen? ⟨m, j, none⟩ = false) ∧ free? W m 0 26 = true ∧ fok (tkC t us ur).toArray 26 = true
theorem QO.c {w W : World} {m : Nat} {t : TK} {us ur : Value} (h : QO w W m t us ur) : QOC w W m t us ur :=
  ⟨h.tk.ver, h.tk.kind, h.tk.resp, h.tk.rg, h.tk.row, obj_free h.res (by simp), free_of fun j hj => by
    refine ⟨?_, ObjAt.free h.tk.1 (4 + j)⟩
    rw [ObjAt.cell h.tk.1 (4 + j), Array.getElem?_eq_getElem (by simp [tkC_length h.tk.2]; omega)]; rfl, h.tk.quiet, h.tk.rob, h.tk.every, h.tk.us, h.tk.ur, fun j => ObjAt.free h.tk.1 j, obj_free h.tk.1 (by simp [tkC_length h.tk.2]), fok_tk h.tk.2 h.src.1.one h.rcs.rcs.one⟩
theorem QO.start (w : World) (K : Int) : QO w (aggW ((w.alloc (.cells #[.bool false, .int .i64 0, .int .i64 0, .int .i64 0, .bool false, .int .u8 0, .int .u8 0, .int .u8 0, .int .u8 0, .int .u8 0, .int .u8 0, .int .u8 0, .int .u8 0, .int .u8 0, .int .u8 0, .int .u8 0, .int .u8 0, .int .u8 0, .int .u8 0, .int .u8 0, .int .u8 0, .bool false, .int .i64 0, .int .i64 0, .slice none 0 0, .slice none 0 0] 28)).alloc (.cells #[.bool false, .int .i64 0, .int .i64 0, .int .i64 0, .bool false, .int .u8 0, .int .u8 0, .int .u8 0, .int .u8 0, .int .u8 0, .int .u8 0, .int .u8 0, .int .u8 0, .int .u8 0, .int .u8 0, .int .u8 0, .int .u8 0, .int .u8 0, .int .u8 0, .int .u8 0, .int .u8 0, .bool false, .int .i64 0, .int .i64 0, .slice none 0 0, .slice none 0 0] 28)) (w.heap.size + 1) (tkC ⟨true, 1, K, 0, zeroA, false, 0, 0, [], []⟩ (.slice none 0 0) (.slice none 0 0))) (w.heap.size + 1) ⟨true, 1, K, 0, zeroA, false, 0, 0, [], []⟩ (.slice none 0 0) (.slice none 0 0) := by
  have s1 : (w.alloc (.cells #[.bool false, .int .i64 0, .int .i64 0, .int .i64 0, .bool false, .int .u8 0, .int .u8 0, .int .u8 0, .int .u8 0, .int .u8 0, .int .u8 0, .int .u8 0, .int .u8 0, .int .u8 0, .int .u8 0, .int .u8 0, .int .u8 0, .int .u8 0, .int .u8 0, .int .u8 0, .int .u8 0, .bool false, .int .i64 0, .int .i64 0, .slice none 0 0, .slice none 0 0] 28)).heap.size = w.heap.size + 1 := by simp
  have h1 := ObjAt.made (w.alloc (.cells #[.bool false, .int .i64 0, .int .i64 0, .int .i64 0, .bool false, .int .u8 0, .int .u8 0, .int .u8 0, .int .u8 0, .int .u8 0, .int .u8 0, .int .u8 0, .int .u8 0, .int .u8 0, .int .u8 0, .int .u8 0, .int .u8 0, .int .u8 0, .int .u8 0, .int .u8 0, .int .u8 0, .bool false, .int .i64 0, .int .i64 0, .slice none 0 0, .slice none 0 0] 28)) #[.bool false, .int .i64 0, .int .i64 0, .int .i64 0, .bool false, .int .u8 0, .int .u8 0, .int .u8 0, .int .u8 0, .int .u8 0, .int .u8 0, .int .u8 0, .int .u8 0, .int .u8 0, .int .u8 0, .int .u8 0, .int .u8 0, .int .u8 0, .int .u8 0, .int .u8 0, .int .u8 0, .bool false, .int .i64 0, .int .i64 0, .slice none 0 0, .slice none 0 0] 28
  rw [s1] at h1
  exact ⟨aggW_other (ObjAt.alloc (ObjAt.made w _ _) _) _ (by omega), ⟨aggW_obj (L := (#[.bool false, .int .i64 0, .int .i64 0, .int .i64 0, .bool false, .int .u8 0, .int .u8 0, .int .u8 0, .int .u8 0, .int .u8 0, .int .u8 0, .int .u8 0, .int .u8 0, .int .u8 0, .int .u8 0, .int .u8 0, .int .u8 0, .int .u8 0, .int .u8 0, .int .u8 0, .int .u8 0, .bool false, .int .i64 0, .int .i64 0, .slice none 0 0, .slice none 0 0] : Array Value).toList) (by simpa using h1) rfl (tkC_one rfl rfl), zeroA_ok⟩, aggW_below (((Below.refl _ _).alloc (Nat.le_refl _) _).alloc (by simp) _) (by omega) _, by omega, AdsT.nil _, RcT.nil _⟩
end Go.Proofs.Ytgpccgcppbdlpaa

/-
  The contract of sum.Pseudo.
-/
namespace Go.Proofs.Ytgpccgcppbdlpaa
open Go.RowKit
set_option linter.unusedVariables false

/-- What is summed ahead of a packet's body. -/
def pseudoL (v6 : Bool) (f t : List UInt8) (p s : Nat) : List UInt8 :=
  if v6 then f ++ (t ++ (putL s 4 ++ putL p 4)) else f.take 4 ++ (t.take 4 ++ (putL p 2 ++ putL s 2))
theorem u64_nat (a : Int) : IntKind.u64.wrap a = ((a % 18446744073709551616).toNat : Int) := by
  simp only [IntKind.wrap_u64]; omega
theorem low8 (a : Int) : bitsN (a % 18446744073709551616).toNat 0 8 = (a % 256).toNat := by
  unfold bitsN
  rw [show clampN 0 64 = 0 from rfl, show clampN 8 64 = 8 from rfl]
  omega
theorem put_two (n : Nat) (hn : n ≤ 18446744073709551615) (w : World) : Calls Try.prog 45 #[.int .u64 n, .int .i64 2] w fun e w' => e = .returned (.string (Str (putL n 2))) ∧ Below w.heap.size w w' := put_any n (by omega) 2 w
theorem put_four (n : Nat) (hn : n ≤ 18446744073709551615) (w : World) : Calls Try.prog 45 #[.int .u64 n, .int .i64 4] w fun e w' => e = .returned (.string (Str (putL n 4))) ∧ Below w.heap.size w w' := put_any n (by omega) 4 w


theorem row_to {P : Program} {b o : Nat} {l : List UInt8} (src dst e : TypeId) (hs : P.underlying src = some (.slice e)) (he : P.underlying e = some (.int .u8)) (hd : P.underlying dst = some .string) (n cap : Nat) (hn : n ≤ l.length) :
    ∀ w : World, RowAt w b o l → (convert src dst (.slice (some ⟨b, o, none⟩) n cap)).run P w = .ok (.string (Str (l.take n))) w := fun w hr => run_string_row src dst e hs he hd hr n cap hn

/-- What the call made lies beside what was there. -/
def PsB (w w' : World) : Prop := w.heap.size + 1 < w'.heap.size ∧ Below w.heap.size w w'
theorem psk {w w' w'' : World} {la lb : List UInt8} (h : RowAt w' w.heap.size 1 la ∧ RowAt w' (w.heap.size + 1) 1 lb ∧ PsB w w') (hb : Below w'.heap.size w' w'') :
    RowAt w'' w.heap.size 1 la ∧ RowAt w'' (w.heap.size + 1) 1 lb ∧ PsB w w'' := by
  obtain ⟨h0, h1, h2, h3⟩ := h
  exact ⟨h0.below (by omega) hb, h1.below h2 hb, by have := hb.size; omega, bstep h3 hb⟩
theorem psk_drew {w w' : World} {la lb : List UInt8} (h : RowAt w' w.heap.size 1 la ∧ RowAt w' (w.heap.size + 1) 1 lb ∧ PsB w w') (n : Nat) : RowAt (w'.drewN n) w.heap.size 1 la ∧ RowAt (w'.drewN n) (w.heap.size + 1) 1 lb ∧ PsB w (w'.drewN n) :=
  psk h (bdrewN (Below.refl _ _) n)

set_option maxHeartbeats 1000000 in
theorem pseudo_any (va vb : Bool) (la lb : List UInt8) (ha : la.length = 16) (hb : lb.length = 16) (p s : Int) (w : World) :
    Calls Try.prog 53 #[.agg (addrC va la).toArray, .agg (addrC vb lb).toArray, .int .i64 p, .int .i64 s] w
      fun e w' => e = .returned (.string (Str (pseudoL (va || vb) la lb (p % 256).toNat (s % 18446744073709551616).toNat))) ∧ Below w.heap.size w w' := by
  have HP := Lib.hid (u64_nat p)
  have HS := Lib.hid (u64_nat s)
  have HB := Lib.hid (low8 p)
  have hP : (p % 256).toNat ≤ 255 := by omega
  have hS : (s % 18446744073709551616).toNat ≤ 18446744073709551615 := by omega
  generalize hpn : (p % 256).toNat = P at hP HB ⊢
  have Hpn := Lib.hid hpn; clear hpn
  generalize hsn : (s % 18446744073709551616).toNat = S at hS HS ⊢
  have Hsn := Lib.hid hsn; clear hsn
  have hA16 := row_to (P := Try.prog) (b := w.heap.size) (o := 1) (l := la) 73 9 5 Try.underlying73 Try.underlying5 Try.underlying9 16 16 (by omega)
  have hA4 := row_to (P := Try.prog) (b := w.heap.size) (o := 1) (l := la) 73 9 5 Try.underlying73 Try.underlying5 Try.underlying9 4 16 (by omega)
  have hB16 := row_to (P := Try.prog) (b := w.heap.size + 1) (o := 1) (l := lb) 73 9 5 Try.underlying73 Try.underlying5 Try.underlying9 16 16 (by omega)
  have hB4 := row_to (P := Try.prog) (b := w.heap.size + 1) (o := 1) (l := lb) 73 9 5 Try.underlying73 Try.underlying5 Try.underlying9 4 16 (by omega)
  rw [List.take_of_length_le (by omega)] at hA16 hB16
  have c1 := run_cat (P := Try.prog) la lb (by omega)
  have c2 := run_cat (P := Try.prog) (la ++ lb) (putL S 4) (by simp [putL_length]; omega)
  have c3 := run_cat (P := Try.prog) (la ++ (lb ++ putL S 4)) (putL P 4) (by simp [putL_length]; omega)
  have d1 := run_cat (P := Try.prog) (la.take 4) (lb.take 4) (by simp; omega)
  have d2 := run_cat (P := Try.prog) (la.take 4 ++ lb.take 4) (putL P 2) (by simp [putL_length]; omega)
  have d3 := run_cat (P := Try.prog) (la.take 4 ++ (lb.take 4 ++ putL P 2)) (putL S 2) (by simp [putL_length]; omega)
  simp only [List.append_assoc] at c2 c3 d2 d3
  have Ha := Lib.hid ha
  have Hb := Lib.hid hb
  clear ha hb
  go_enter Try.func53, Try.ntmps53
  go_wp2_with fail
  have hr0 := (rowAt_box w va la 24 (0, 0) _ rfl).below (B := w.heap.size + 1) (by omega) ((Below.refl (w.heap.size + 1) (w.alloc (.cells (addrC va la).toArray 24))).alloc (by simp) (.cells (addrC vb lb).toArray 24))
  have hr1 := rowAt_box (w.alloc (.cells (addrC va la).toArray 24)) vb lb 24 (0, 0) (w.heap.size + 1) (by simp)
  have hb0 : Below w.heap.size w ((w.alloc (.cells (addrC va la).toArray 24)).alloc (.cells (addrC vb lb).toArray 24)) := ((Below.refl _ _).alloc (Nat.le_refl _) _).alloc (by simp) _
  have hz : w.heap.size + 1 < ((w.alloc (.cells (addrC va la).toArray 24)).alloc (.cells (addrC vb lb).toArray 24)).heap.size := by simp
  have hv0 : ((w.alloc (.cells (addrC va la).toArray 24)).alloc (.cells (addrC vb lb).toArray 24)).cell? ⟨w.heap.size, 0, none⟩ = some (.bool va) := by simp [addrC]
  have hv1 : ((w.alloc (.cells (addrC va la).toArray 24)).alloc (.cells (addrC vb lb).toArray 24)).cell? ⟨w.heap.size + 1, 0, none⟩ = some (.bool vb) := by simp [addrC]
  generalize (w.alloc (.cells (addrC va la).toArray 24)).alloc (.cells (addrC vb lb).toArray 24) = W at hr0 hr1 hb0 hz hv0 hv1 ⊢
  have hp0 : RowAt W w.heap.size 1 la ∧ RowAt W (w.heap.size + 1) 1 lb ∧ PsB w W := ⟨hr0, hr1, hz, hb0⟩
  have Hp0 := Lib.hid hp0; clear hp0 hb0 hr0 hr1 hz
  rw [HP.out]
  refine (bits_any _ (by omega) 0 8 _).mono ?_
  rintro e w1 ⟨rfl, d, rfl⟩
  rw [HB.out]
  cases va with
  | true =>
    go_wp2_with fail
    have hws := HS.out
    go_region_held3 (fun w' => RowAt w' w.heap.size 1 la ∧ RowAt w' (w.heap.size + 1) 1 lb ∧ PsB w w') (first | assumption | exact psk_drew Hp0.out (d + 1)) (first
      | (go_at_call 45; refine (put_four _ (by first | exact hS | omega) _).mono ?_; rintro e w3 ⟨rfl, hb3⟩; have hk := psk (w := w) (la := la) (lb := lb) (by assumption) hb3; clear hb3))
    go_wp2_with fail
    go_ret
    exact ⟨rfl, hk.2.2.2⟩
  | false =>
    cases vb with
    | true =>
      go_wp2_with fail
      have hws := HS.out
      go_region_held3 (fun w' => RowAt w' w.heap.size 1 la ∧ RowAt w' (w.heap.size + 1) 1 lb ∧ PsB w w') (first | assumption | exact psk_drew Hp0.out (d + 1)) (first
        | (go_at_call 45; refine (put_four _ (by first | exact hS | omega) _).mono ?_; rintro e w3 ⟨rfl, hb3⟩; have hk := psk (w := w) (la := la) (lb := lb) (by assumption) hb3; clear hb3))
      go_wp2_with fail
      go_ret
      exact ⟨rfl, hk.2.2.2⟩
    | false =>
      go_wp2_with fail
      have hws := HS.out
      go_region_held3 (fun w' => RowAt w' w.heap.size 1 la ∧ RowAt w' (w.heap.size + 1) 1 lb ∧ PsB w w') (first | assumption | exact psk_drew Hp0.out (d + 1)) (first
        | (go_at_call 45; refine (put_two _ (by first | exact hS | omega) _).mono ?_; rintro e w3 ⟨rfl, hb3⟩; have hk := psk (w := w) (la := la) (lb := lb) (by assumption) hb3; clear hb3))
      go_wp2_with fail
      go_ret
      exact ⟨rfl, hk.2.2.2⟩
end Go.Proofs.Ytgpccgcppbdlpaa

