/-
  Texts joined: IpG, IpU, MdR, MqA, TqA, TrA, TqB, Pseudo, RefPseudo, MqB, TkX, TkY, MdW, MdX.
-/
import Derived.Test.YtlbdehegknehiaaGreatMg10
import Derived.Test.YtlbdehegknehiaaGreatMg12
import Derived.Test.YtlbdehegknehiaaGreatMg08
import Derived.Test.YtlbdehegknehiaaGreatMg00
import Derived.Deep.CutRange
import Derived.Deep.LoopGhost
import Derived.Test.YtlbdehegknehiaaGreatMg09
import Derived.Test.YtlbdehegknehiaaGreatMg02
import Derived.Test.YtlbdehegknehiaaGreatMg06
import Derived.Deep.RegionHeld3
import Derived.Test.YtlbdehegknehiaaGreatMg07
import Derived.Deep.Cut
import Derived.BigQuiet
/- A part of the proof. -/
namespace Go.Proofs.YtlbdehegknehiaaGreat
open Go.RowKit
set_option linter.unusedVariables false
theorem by8_drop (s : List UInt8) (i j : Nat) : by8 (s.drop i) j = by8 s (i + j) := by
  unfold by8
  rw [List.getD_eq_getElem?_getD, List.getD_eq_getElem?_getD, List.getElem?_drop]
end Go.Proofs.YtlbdehegknehiaaGreat

/- A part of the proof. -/
namespace Go.Proofs.YtlbdehegknehiaaGreat
open Go.RowKit
set_option linter.unusedVariables false
attribute [local go_sem ↓] bld_ip ld_ip st_ip ld_addr st_addr
attribute [local go_sem] ldr_ip str_ip ldr_addr str_addr
def RR (w W : World) : Prop := ObjAt W w.heap.size (ipC zeroI).toArray 78 ∧ ObjAt W (w.heap.size + 1) (ipC zeroI).toArray 78 ∧ Below w.heap.size w W
theorem RR.start (w : World) : RR w (aggW ((w.alloc (.cells (ipC zeroI).toArray 78)).alloc (.cells (ipC zeroI).toArray 78)) (w.heap.size + 1) (ipC zeroI)) := by
  have h0 := (ObjAt.made w (ipC zeroI).toArray 78).alloc (.cells (ipC zeroI).toArray 78)
  have h1 := ObjAt.made (w.alloc (.cells (ipC zeroI).toArray 78)) (ipC zeroI).toArray 78
  rw [show (w.alloc (.cells (ipC zeroI).toArray 78)).heap.size = w.heap.size + 1 by simp] at h1
  have hb : Below w.heap.size w ((w.alloc (.cells (ipC zeroI).toArray 78)).alloc (.cells (ipC zeroI).toArray 78)) := ((Below.refl _ _).alloc (Nat.le_refl _) _).alloc (by simp) _
  exact ⟨aggW_other h0 _ (by omega), aggW_obj (cs := ipC zeroI) h1 rfl (ipC_one zeroI), aggW_below hb (by omega) _⟩
theorem RR.drewN {w W : World} (h : RR w W) (d : Nat) : RR w (W.drewN d) := ⟨h.1, h.2.1, bdrewN h.2.2 d⟩
theorem RR.below {w W W' : World} (h : RR w W) (hb : Below W.heap.size W W') : RR w W' := ⟨h.1.below hb h.1.lt, h.2.1.below hb h.2.1.lt, bstep h.2.2 hb⟩
theorem RR.free {w W : World} (h : RR w W) : free? W w.heap.size 0 40 = true := obj_free h.1 (by simp [ipC_length zeroI_ok])
theorem RR.row {w W : World} (h : RR w W) : row? W (w.heap.size + 1) 0 40 = some (ipC zeroI) := obj_row (A := []) (M := ipC zeroI) (C := []) (by simpa using h.2.1) rfl (ipC_length zeroI_ok)
theorem RR.done {w W : World} (h : RR w W) (e : Ip) (ho : e.ok) : row? (aggW W w.heap.size (ipC e)) w.heap.size 0 40 = some (ipC e) ∧ Below w.heap.size w (aggW W w.heap.size (ipC e)) :=
  ⟨aggW_row h.free (ipC_length ho), aggW_below h.2.2 (Nat.le_refl _) _⟩
end Go.Proofs.YtlbdehegknehiaaGreat

/- A part of the proof. -/
namespace Go.Proofs.YtlbdehegknehiaaGreat
open Go.RowKit
set_option linter.unusedVariables false
set_option linter.unusedSimpArgs false
attribute [local go_sem ↓] ld_addr st_addr bld_addr ld_rec st_rec bld_rec rcsLit_eq
attribute [local go_sem] ldr_addr str_addr ldr_rec str_rec
def RS9 (s : List UInt8) (n i m : Nat) (acc : List RC) : Prop := (recL9 s 8 n).2 = (recL9 s i m).2 ∧ ((recL9 s i m).2 = 0 → (recL9 s 8 n).1 = acc ++ (recL9 s i m).1)
theorem RS9.start (s : List UInt8) (n : Nat) : RS9 s n 8 n [] := ⟨rfl, fun _ => by simp⟩
theorem RS9.done {s : List UInt8} {n i : Nat} {acc : List RC} (h : RS9 s n i 0 acc) : recL9 s 8 n = (acc, 0) := by
  obtain ⟨h1, h2⟩ := h
  have e : recL9 s i 0 = ([], 0) := by unfold recL9; rfl
  rw [e] at h1 h2
  exact Prod.ext (by rw [h2 rfl]; simp) h1
theorem RS9.short {s : List UInt8} {n i m : Nat} {acc : List RC} (h : RS9 s n i (m + 1) acc) (h1 : s.length < i + 20) : (recL9 s 8 n).2 = 3 := by
  rw [h.1]; unfold recL9; rw [if_pos h1]
theorem RS9.srcs {s : List UInt8} {n i m : Nat} {acc : List RC} (h : RS9 s n i (m + 1) acc) (h1 : ¬ s.length < i + 20) (h2 : srcsE9 s (i + 20) (wd s (i + 2)) ≠ 0) : (recL9 s 8 n).2 = srcsE9 s (i + 20) (wd s (i + 2)) := by
  rw [h.1]; unfold recL9; rw [if_neg h1, if_pos h2]
theorem RS9.ends {s : List UInt8} {n i m : Nat} {acc : List RC} (h : RS9 s n i (m + 1) acc) (h1 : ¬ s.length < i + 20) (h2 : srcsE9 s (i + 20) (wd s (i + 2)) = 0) (h3 : s.length < recN9 s i) : (recL9 s 8 n).2 = 3 := by
  rw [h.1]; unfold recL9; rw [if_neg h1, if_neg (by rw [h2]; simp), if_pos h3]
theorem RS9.step {s : List UInt8} {n i m : Nat} {acc : List RC} (h : RS9 s n i (m + 1) acc) (h1 : ¬ s.length < i + 20) (h2 : srcsE9 s (i + 20) (wd s (i + 2)) = 0) (h3 : ¬ s.length < recN9 s i) :
    RS9 s n (recN9 s i) m (if rcOk9 (rec9 s i) then acc ++ [rec9 s i] else acc) := by
  obtain ⟨a1, a2⟩ := h
  have e : recL9 s i (m + 1) = if (recL9 s (recN9 s i) m).2 ≠ 0 then ([], (recL9 s (recN9 s i) m).2) else (if rcOk9 (rec9 s i) then rec9 s i :: (recL9 s (recN9 s i) m).1 else (recL9 s (recN9 s i) m).1, 0) := by
    conv => lhs; unfold recL9
    rw [if_neg h1, if_neg (by rw [h2]; simp), if_neg h3]
  rw [e] at a1 a2
  by_cases hz : (recL9 s (recN9 s i) m).2 = 0
  · rw [if_neg (by rw [hz]; simp)] at a1 a2
    refine ⟨by rw [a1, hz], fun _ => ?_⟩
    rw [a2 rfl]
    split <;> simp
  · rw [if_pos hz] at a1
    exact ⟨a1, fun h => absurd h hz⟩
def RG9 (w0 W : World) (m : Nat) (r : RC) (u : Value) : Prop := RcU W m 0 r u ∧ Below w0.heap.size w0 W ∧ w0.heap.size ≤ m
theorem RG9.below {w0 W W' : World} {m : Nat} {r : RC} {u : Value} (h : RG9 w0 W m r u) (hb : Below W.heap.size W W') : RG9 w0 W' m r u := ⟨h.1.below hb, bstep h.2.1 hb, h.2.2⟩
theorem RG9.put {w0 W1 W2 : World} {r : RC} {u : Value} (h0 : Below w0.heap.size w0 W1) (ho : adOk r.g) (ha : Ads w0 u r.src) (h2 : Below (W1.alloc (.cells zz19 109)).heap.size (W1.alloc (.cells zz19 109)) W2) : RG9 w0 (aggW W2 W1.heap.size (rcC r u)) W1.heap.size r u := by
  have h1 : Below w0.heap.size w0 (W1.alloc (.cells zz19 109)) := h0.alloc h0.size _
  have hb : Below w0.heap.size w0 (aggW W2 W1.heap.size (rcC r u)) := aggW_below (bstep h1 h2) h0.size _
  have hob := ObjAt.made W1 zz19 109
  have hob2 := hob.below h2 hob.lt
  have hc := aggW_obj (L := (zz19 : Array Value).toList) (cs := rcC r u) (by simpa using hob2) (by rw [rcC_length ho]; rfl) (rcC_one ha.one)
  have hf : free? W2 W1.heap.size 0 19 = true := obj_free hob2 (by simp)
  exact ⟨⟨ho, hc.lt, aggW_row hf (rcC_length ho u), ha.below hb⟩, hb, h0.size⟩
end Go.Proofs.YtlbdehegknehiaaGreat

/- A part of the proof. -/
namespace Go.Proofs.YtlbdehegknehiaaGreat
open Go.RowKit
set_option linter.unusedVariables false
set_option linter.unusedSimpArgs false
attribute [local go_sem ↓] ld_addr st_addr bld_addr ld_tk st_tk bld_tk
attribute [local go_sem] ldr_addr str_addr str_addr_at ldr_tk str_tk
theorem tkC_grp9 (e : TK) (se re : Value) (ho : adOk e.g) (a : AD) (ha : adOk a) : over (tkC e se re) 4 (adC a) = tkC ⟨e.v6, e.ver, e.kind, e.resp, a, e.quiet, e.rob, e.every, e.src, e.rcs⟩ se re := by
  unfold over tkC
  have l1 := adC_length ho
  have l2 := adC_length ha
  rw [l2]
  simp only [List.cons_append, List.nil_append, List.take_succ_cons, List.take_zero, List.drop_succ_cons]
  rw [List.drop_append_of_le_length (by omega), List.drop_of_length_le (by omega)]
  simp
structure QO (w W : World) (m : Nat) (t : TK) (us ur : Value) : Prop where
  res : ObjAt W w.heap.size zz26 28
  tk : TkAt W m t us ur
  blw : Below w.heap.size w W
  lt : w.heap.size < m
  src : AdsT W us t.src
  rcs : RcT W ur t.rcs
theorem QO.below {w W W' : World} {m : Nat} {t : TK} {us ur : Value} (h : QO w W m t us ur) (hb : Below W.heap.size W W') : QO w W' m t us ur :=
  ⟨h.res.below hb h.res.lt, h.tk.below hb, bstep h.blw hb, h.lt, h.src.below hb, h.rcs.below hb⟩
theorem QO.done {w W : World} {m : Nat} {t : TK} {us ur : Value} (h : QO w W m t us ur) :
    row? (aggW W w.heap.size (tkC t us ur)) w.heap.size 0 26 = some (tkC t us ur) ∧ Below w.heap.size w (aggW W w.heap.size (tkC t us ur)) ∧ AdsT (aggW W w.heap.size (tkC t us ur)) us t.src ∧ RcT (aggW W w.heap.size (tkC t us ur)) ur t.rcs :=
  ⟨aggW_row (obj_free h.res (by simp)) (tkC_length h.tk.2 _ _), aggW_below h.blw (Nat.le_refl _) _, h.src.grown h.res (aggW_grown _ _ _), h.rcs.grown h.res (aggW_grown _ _ _)⟩
theorem QO.set {w W : World} {m : Nat} {t t' : TK} {us ur us' ur' : Value} (h : QO w W m t us ur) (j : Nat) (v : Value) (e : (tkC t us ur).set j v = tkC t' us' ur') (ho : adOk t'.g) (hs : AdsT W us' t'.src) (hr : RcT W ur' t'.rcs) :
    QO w (W.setCell ⟨m, j, none⟩ v) m t' us' ur' := by
  have hlt := h.lt
  have h1 : ObjAt (W.setCell ⟨m, j, none⟩ v) m (tkC t' us' ur').toArray 28 := by
    have := ObjAt.set h.tk.1 j v
    rw [zsA, e] at this
    exact this
  exact ⟨h.res.other _ _ (by simp; omega), ⟨h1, ho⟩, h.blw.setCell (p := ⟨m, j, none⟩) (by simp; omega) v, h.lt, hs.grown h.tk.1 (gset W m j v), hr.grown h.tk.1 (gset W m j v)⟩
theorem QO.grp {w W : World} {m : Nat} {t : TK} {us ur : Value} (h : QO w W m t us ur) (a : AD) (ha : adOk a) : QO w (aggO W m 4 (adC a)) m ⟨t.v6, t.ver, t.kind, t.resp, a, t.quiet, t.rob, t.every, t.src, t.rcs⟩ us ur := by
  have hlt := h.lt
  have l1 := tkC_length h.tk.2 us ur
  have h1 := aggO_obj (o := 4) (cs := adC a) h.tk.1 (by rw [l1, adC_length ha]; omega) (addrC_one _ _)
  rw [tkC_grp9 t us ur h.tk.2 a ha] at h1
  have hg : W.grownBy (aggO W m 4 (adC a)) (some m) := by rw [aggO_eq]; exact setCells_grown m _ 4 W
  exact ⟨aggO_other h.res _ (by omega), ⟨h1, ha⟩, aggO_below h.blw (by omega) _ _, h.lt, h.src.grown h.tk.1 hg, h.rcs.grown h.tk.1 hg⟩
def QOC (w W : World) (m : Nat) (t : TK) (us ur : Value) : Prop :=
  W.cell? ⟨m, 1, none⟩ = some (.int .i64 t.ver) ∧ W.cell? ⟨m, 2, none⟩ = some (.int .i64 t.kind) ∧ W.cell? ⟨m, 3, none⟩ = some (.int .i64 t.resp) ∧ row? W m 4 17 = some (adC t.g) ∧ row? W m 0 26 = some (tkC t us ur) ∧ free? W w.heap.size 0 26 = true ∧ free? W m 4 17 = true ∧
  W.cell? ⟨m, 21, none⟩ = some (.bool t.quiet) ∧ W.cell? ⟨m, 22, none⟩ = some (.int .i64 t.rob) ∧ W.cell? ⟨m, 23, none⟩ = some (.int .i64 t.every) ∧ W.cell? ⟨m, 24, none⟩ = some us ∧ W.cell? ⟨m, 25, none⟩ = some ur ∧ (∀ j, W.frozen? ⟨m, j, none⟩ = false) ∧ free? W m 0 26 = true ∧ fok (tkC t us ur).toArray 26 = true
theorem QO.c {w W : World} {m : Nat} {t : TK} {us ur : Value} (h : QO w W m t us ur) : QOC w W m t us ur :=
  ⟨h.tk.ver, h.tk.kind, h.tk.resp, h.tk.rg, h.tk.row, obj_free h.res (by simp), free_of fun j hj => by
    refine ⟨?_, ObjAt.free h.tk.1 (4 + j)⟩
    rw [ObjAt.cell h.tk.1 (4 + j), Array.getElem?_eq_getElem (by simp [tkC_length h.tk.2]; omega)]; rfl, h.tk.quiet, h.tk.rob, h.tk.every, h.tk.us, h.tk.ur, fun j => ObjAt.free h.tk.1 j, obj_free h.tk.1 (by simp [tkC_length h.tk.2]), fok_tk h.tk.2 h.src.1.one h.rcs.rcs.one⟩
theorem QO.start (w : World) (K : Int) : QO w (aggW ((w.alloc (.cells zz26 28)).alloc (.cells zz26 28)) (w.heap.size + 1) (tkC ⟨true, 1, K, 0, zeroA, false, 0, 0, [], []⟩ (.slice none 0 0) (.slice none 0 0))) (w.heap.size + 1) ⟨true, 1, K, 0, zeroA, false, 0, 0, [], []⟩ (.slice none 0 0) (.slice none 0 0) := by
  have s1 : (w.alloc (.cells zz26 28)).heap.size = w.heap.size + 1 := by simp
  have h1 := ObjAt.made (w.alloc (.cells zz26 28)) zz26 28
  rw [s1] at h1
  exact ⟨aggW_other (ObjAt.alloc (ObjAt.made w _ _) _) _ (by omega), ⟨aggW_obj (L := (zz26 : Array Value).toList) (by simpa using h1) rfl (tkC_one rfl rfl), zeroA_ok⟩, aggW_below (((Below.refl _ _).alloc (Nat.le_refl _) _).alloc (by simp) _) (by omega) _, by omega, AdsT.nil _, RcT.nil _⟩
end Go.Proofs.YtlbdehegknehiaaGreat

/- A part of the proof. -/
namespace Go.Proofs.YtlbdehegknehiaaGreat
open Go.RowKit
set_option linter.unusedVariables false
set_option linter.unusedSimpArgs false
attribute [local go_sem ↓] ld_addr st_addr bld_addr ld_tk st_tk bld_tk
attribute [local go_sem] ldr_addr str_addr ldr_tk str_tk
def QR (w W : World) : Prop := ObjAt W w.heap.size zz26 28 ∧ Below w.heap.size w W
theorem QR.start (w : World) : QR w (w.alloc (.cells zz26 28)) := ⟨ObjAt.made w _ _, (Below.refl _ _).alloc (Nat.le_refl _) _⟩
theorem QR.below {w W W' : World} (h : QR w W) (hb : Below W.heap.size W W') : QR w W' := ⟨h.1.below hb h.1.lt, bstep h.2 hb⟩
def QA (w W : World) (m : Nat) : Prop := QR w W ∧ ObjAt W m zz26 28 ∧ w.heap.size < m
def QZ (w W : World) (p : Nat) : Prop := QR w W ∧ ObjAt W p zz17 24 ∧ w.heap.size < p
def QAZ (w W : World) (m p : Nat) : Prop := QR w W ∧ ObjAt W m zz26 28 ∧ ObjAt W p zz17 24 ∧ w.heap.size < m ∧ w.heap.size < p ∧ m ≠ p
theorem QA.below {w W W' : World} {m : Nat} (h : QA w W m) (hb : Below W.heap.size W W') : QA w W' m := ⟨h.1.below hb, h.2.1.below hb h.2.1.lt, h.2.2⟩
theorem QZ.below {w W W' : World} {p : Nat} (h : QZ w W p) (hb : Below W.heap.size W W') : QZ w W' p := ⟨h.1.below hb, h.2.1.below hb h.2.1.lt, h.2.2⟩
theorem QAZ.below {w W W' : World} {m p : Nat} (h : QAZ w W m p) (hb : Below W.heap.size W W') : QAZ w W' m p := ⟨h.1.below hb, h.2.1.below hb h.2.1.lt, h.2.2.1.below hb h.2.2.1.lt, h.2.2.2⟩
theorem QR.alloc {w W : World} (h : QR w W) (o : Obj) : QR w (W.alloc o) := h.below ((Below.refl _ _).alloc (Nat.le_refl _) _)
theorem QR.a {w W : World} (h : QR w W) : QA w (W.alloc (.cells zz26 28)) W.heap.size := ⟨h.alloc _, ObjAt.made W _ _, h.1.lt⟩
theorem QR.z {w W : World} (h : QR w W) : QZ w (W.alloc (.cells zz17 24)) W.heap.size := ⟨h.alloc _, ObjAt.made W _ _, h.1.lt⟩
theorem QA.z {w W : World} {m : Nat} (h : QA w W m) : QAZ w (W.alloc (.cells zz17 24)) m W.heap.size := by
  have := h.2.1.lt
  exact ⟨h.1.alloc _, h.2.1.alloc _, ObjAt.made W _ _, h.2.2, h.1.1.lt, by omega⟩
theorem QZ.a {w W : World} {p : Nat} (h : QZ w W p) : QAZ w (W.alloc (.cells zz26 28)) W.heap.size p := by
  have := h.2.1.lt
  exact ⟨h.1.alloc _, ObjAt.made W _ _, h.2.1.alloc _, h.1.1.lt, h.2.2, by omega⟩
theorem QAZ.t0 {w W : World} {m p : Nat} (h : QAZ w W m p) (t : TK) (ho : adOk t.g) (hs : t.src = []) (hr : t.rcs = []) : QT w (aggW W m (tkC t (.slice none 0 0) (.slice none 0 0))) m t (.slice none 0 0) (.slice none 0 0) p zz17 24 := by
  obtain ⟨⟨h1, h2⟩, h3, h4, h5, h6, h7⟩ := h
  have hc := aggW_obj (L := (zz26 : Array Value).toList) (cs := tkC t (.slice none 0 0) (.slice none 0 0)) (by simpa using h3) (by rw [tkC_length ho]; rfl) (tkC_one rfl rfl)
  exact ⟨aggW_other h1 _ (by omega), ⟨hc, ho⟩, aggW_below h2 (by omega) _, h5, by rw [hs]; exact AdsT.nil _, by rw [hr]; exact RcT.nil _, aggW_other h4 _ (Ne.symm h7), h6, h7⟩
theorem QT.zero {w W : World} {m p : Nat} {t : TK} (h : QT w W m t (.slice none 0 0) (.slice none 0 0) p zz17 24) (hs : t.src = []) (hr : t.rcs = []) : QT w (aggW W p (adC zeroA)) m t (.slice none 0 0) (.slice none 0 0) p (adC zeroA).toArray 24 := by
  have h1 := h.ltp
  have hc := aggW_obj (L := (zz17 : Array Value).toList) (cs := adC zeroA) (by simpa using h.more) rfl (addrC_one _ _)
  exact ⟨aggW_other h.res _ (by omega), ⟨aggW_other h.tk.1 _ h.ne, h.tk.2⟩, aggW_below h.blw (by omega) _, h.lt, by rw [hs]; exact AdsT.nil _, by rw [hr]; exact RcT.nil _, hc, h1, h.ne⟩
end Go.Proofs.YtlbdehegknehiaaGreat

/- A part of the proof. -/
namespace Go.Proofs.YtlbdehegknehiaaGreat
open Go.RowKit
set_option linter.unusedVariables false
set_option linter.unusedSimpArgs false
attribute [local go_sem ↓] ld_addr st_addr bld_addr ld_rec st_rec bld_rec rcsLit_eq
attribute [local go_sem] ldr_addr str_addr ldr_rec str_rec
def RS (s : List UInt8) (n i m : Nat) (acc : List RC) : Prop := (recL s 8 n).2 = (recL s i m).2 ∧ ((recL s i m).2 = 0 → (recL s 8 n).1 = acc ++ (recL s i m).1)
theorem RS.start (s : List UInt8) (n : Nat) : RS s n 8 n [] := ⟨rfl, fun _ => by simp⟩
theorem RS.done {s : List UInt8} {n i : Nat} {acc : List RC} (h : RS s n i 0 acc) : recL s 8 n = (acc, 0) := by
  obtain ⟨h1, h2⟩ := h
  have e : recL s i 0 = ([], 0) := by unfold recL; rfl
  rw [e] at h1 h2
  exact Prod.ext (by rw [h2 rfl]; simp) h1
theorem RS.short {s : List UInt8} {n i m : Nat} {acc : List RC} (h : RS s n i (m + 1) acc) (h1 : s.length < i + 8) : (recL s 8 n).2 = 3 := by
  rw [h.1]; unfold recL; rw [if_pos h1]
theorem RS.srcs {s : List UInt8} {n i m : Nat} {acc : List RC} (h : RS s n i (m + 1) acc) (h1 : ¬ s.length < i + 8) (h2 : srcsE s (i + 8) (wd s (i + 2)) ≠ 0) : (recL s 8 n).2 = srcsE s (i + 8) (wd s (i + 2)) := by
  rw [h.1]; unfold recL; rw [if_neg h1, if_pos h2]
theorem RS.ends {s : List UInt8} {n i m : Nat} {acc : List RC} (h : RS s n i (m + 1) acc) (h1 : ¬ s.length < i + 8) (h2 : srcsE s (i + 8) (wd s (i + 2)) = 0) (h3 : s.length < recN s i) : (recL s 8 n).2 = 3 := by
  rw [h.1]; unfold recL; rw [if_neg h1, if_neg (by rw [h2]; simp), if_pos h3]
theorem RS.step {s : List UInt8} {n i m : Nat} {acc : List RC} (h : RS s n i (m + 1) acc) (h1 : ¬ s.length < i + 8) (h2 : srcsE s (i + 8) (wd s (i + 2)) = 0) (h3 : ¬ s.length < recN s i) :
    RS s n (recN s i) m (if rcOk (rec1 s i) then acc ++ [rec1 s i] else acc) := by
  obtain ⟨a1, a2⟩ := h
  have e : recL s i (m + 1) = if (recL s (recN s i) m).2 ≠ 0 then ([], (recL s (recN s i) m).2) else (if rcOk (rec1 s i) then rec1 s i :: (recL s (recN s i) m).1 else (recL s (recN s i) m).1, 0) := by
    conv => lhs; unfold recL
    rw [if_neg h1, if_neg (by rw [h2]; simp), if_neg h3]
  rw [e] at a1 a2
  by_cases hz : (recL s (recN s i) m).2 = 0
  · rw [if_neg (by rw [hz]; simp)] at a1 a2
    refine ⟨by rw [a1, hz], fun _ => ?_⟩
    rw [a2 rfl]
    split <;> simp
  · rw [if_pos hz] at a1
    exact ⟨a1, fun h => absurd h hz⟩
def recE (s : List UInt8) : Int := if 64 < wd s 6 then 6 else (recL s 8 (wd s 6)).2
def RG8 (w0 W : World) (m : Nat) (r : RC) (u : Value) : Prop := RcU W m 0 r u ∧ Below w0.heap.size w0 W ∧ w0.heap.size ≤ m
theorem RG8.below {w0 W W' : World} {m : Nat} {r : RC} {u : Value} (h : RG8 w0 W m r u) (hb : Below W.heap.size W W') : RG8 w0 W' m r u := ⟨h.1.below hb, bstep h.2.1 hb, h.2.2⟩
theorem RG8.put {w0 W1 W2 : World} {r : RC} {u : Value} (h0 : Below w0.heap.size w0 W1) (ho : adOk r.g) (ha : Ads w0 u r.src) (h2 : Below (W1.alloc (.cells zz19 109)).heap.size (W1.alloc (.cells zz19 109)) W2) : RG8 w0 (aggW W2 W1.heap.size (rcC r u)) W1.heap.size r u := by
  have h1 : Below w0.heap.size w0 (W1.alloc (.cells zz19 109)) := h0.alloc h0.size _
  have hb : Below w0.heap.size w0 (aggW W2 W1.heap.size (rcC r u)) := aggW_below (bstep h1 h2) h0.size _
  have hob := ObjAt.made W1 zz19 109
  have hob2 := hob.below h2 hob.lt
  have hc := aggW_obj (L := (zz19 : Array Value).toList) (cs := rcC r u) (by simpa using hob2) (by rw [rcC_length ho]; rfl) (rcC_one ha.one)
  have hf : free? W2 W1.heap.size 0 19 = true := obj_free hob2 (by simp)
  exact ⟨⟨ho, hc.lt, aggW_row hf (rcC_length ho u), ha.below hb⟩, hb, h0.size⟩
end Go.Proofs.YtlbdehegknehiaaGreat

/- A part of the proof. -/
namespace Go.Proofs.YtlbdehegknehiaaGreat
open Go.RowKit
set_option linter.unusedVariables false
set_option linter.unusedSimpArgs false
attribute [local go_sem ↓] ld_addr st_addr bld_addr ld_tk st_tk bld_tk
attribute [local go_sem] ldr_addr str_addr ldr_tk str_tk
structure QN (w W : World) (p : Nat) : Prop where
  res : ObjAt W w.heap.size zz26 28
  zer : ObjAt W p (tkC zeroT (.slice none 0 0) (.slice none 0 0)).toArray 28
  blw : Below w.heap.size w W
  ltp : w.heap.size < p
theorem QN.start (w : World) : QN w (aggW ((w.alloc (.cells zz26 28)).alloc (.cells zz26 28)) (w.heap.size + 1) (tkC zeroT (.slice none 0 0) (.slice none 0 0))) (w.heap.size + 1) := by
  have s1 : (w.alloc (.cells zz26 28)).heap.size = w.heap.size + 1 := by simp
  have h1 := ObjAt.made (w.alloc (.cells zz26 28)) zz26 28
  rw [s1] at h1
  exact ⟨aggW_other (ObjAt.alloc (ObjAt.made w _ _) _) _ (by omega), aggW_obj (L := (zz26 : Array Value).toList) (by simpa using h1) rfl (tkC_one rfl rfl), aggW_below (((Below.refl _ _).alloc (Nat.le_refl _) _).alloc (by simp) _) (by omega) _, by omega⟩
theorem QN.below {w W W' : World} {p : Nat} (h : QN w W p) (hb : Below W.heap.size W W') : QN w W' p := ⟨h.res.below hb h.res.lt, h.zer.below hb h.zer.lt, bstep h.blw hb, h.ltp⟩
theorem QN.free {w W : World} {p : Nat} (h : QN w W p) : free? W w.heap.size 0 26 = true := obj_free h.res (by simp)
theorem QN.row {w W : World} {p : Nat} (h : QN w W p) : row? W p 0 26 = some (tkC zeroT (.slice none 0 0) (.slice none 0 0)) := obj_rowk (A := []) (M := tkC zeroT (.slice none 0 0) (.slice none 0 0)) (C := []) (by simpa using h.zer) rfl rfl
def ReadP (w : World) (s : List UInt8) (x : Ending) (w' : World) : Prop := ∃ us ur, x = .returned (.tuple #[.agg (tkC (readT s).1 us ur).toArray, .int .i64 (readT s).2]) ∧ Below w.heap.size w w' ∧ adOk (readT s).1.g ∧ AdsT w' us (readT s).1.src ∧ RcT w' ur (readT s).1.rcs
theorem QN.talk {w W : World} {p : Nat} (h : QN w W p) : QT w (aggW (W.alloc (.cells zz26 28)) W.heap.size (tkC zeroT (.slice none 0 0) (.slice none 0 0))) W.heap.size zeroT (.slice none 0 0) (.slice none 0 0) p (tkC zeroT (.slice none 0 0) (.slice none 0 0)).toArray 28 := by
  have h1 := h.zer.lt
  have h2 := h.res.lt
  have hm := ObjAt.made W zz26 28
  exact ⟨aggW_other (h.res.alloc _) _ (by omega), ⟨aggW_obj (L := (zz26 : Array Value).toList) (by simpa using hm) rfl (tkC_one rfl rfl), zeroA_ok⟩, aggW_below (h.blw.alloc (by omega) _) (by omega) _, h2, AdsT.nil _, RcT.nil _, aggW_other (h.zer.alloc _) _ (by omega), h.ltp, by omega⟩
theorem QT.n {w W : World} {m p : Nat} {t : TK} {us ur : Value} (h : QT w W m t us ur p (tkC zeroT (.slice none 0 0) (.slice none 0 0)).toArray 28) : QN w W p := ⟨h.res, h.more, h.blw, h.ltp⟩
end Go.Proofs.YtlbdehegknehiaaGreat

/- A part of the proof. -/
namespace Go.Proofs.YtlbdehegknehiaaGreat
open Go.RowKit
set_option linter.unusedVariables false
theorem put_two (n : Nat) (hn : n ≤ 18446744073709551615) (w : World) : Calls Tryz.prog 73 #[.int .u64 n, .int .i64 2] w fun e w' => e = .returned (.string (Str (putL n 2))) ∧ Below w.heap.size w w' := put_any n (by omega) 2 w
theorem row_to {P : Program} {b o : Nat} {l : List UInt8} (src dst e : TypeId) (hs : P.underlying src = some (.slice e)) (he : P.underlying e = some (.int .u8)) (hd : P.underlying dst = some .string) (n cap : Nat) (hn : n ≤ l.length) :
    ∀ w : World, RowAt w b o l → (convert src dst (.slice (some ⟨b, o, none⟩) n cap)).run P w = .ok (.string (Str (l.take n))) w := fun w hr => run_string_row src dst e hs he hd hr n cap hn
end Go.Proofs.YtlbdehegknehiaaGreat

/- A part of the proof. -/
namespace Go.Proofs.YtlbdehegknehiaaGreat
open Go.RowKit
set_option linter.unusedVariables false
end Go.Proofs.YtlbdehegknehiaaGreat

/- A part of the proof. -/
namespace Go.Proofs.YtlbdehegknehiaaGreat
open Go.RowKit
set_option linter.unusedVariables false
set_option linter.unusedSimpArgs false
attribute [local go_sem ↓] ld_addr st_addr bld_addr ld_tk st_tk bld_tk
attribute [local go_sem] ldr_addr str_addr ldr_tk str_tk
theorem QN.start9 (w : World) (f g : AD) (hf : adOk f) (hg : adOk g) : ∃ w1, w1 = (w.alloc (.cells (adC f).toArray 24)).alloc (.cells (adC g).toArray 24) ∧ w1.heap.size = w.heap.size + 2 ∧ Below w.heap.size w w1 ∧
    QN w1 (aggW ((w1.alloc (.cells zz26 28)).alloc (.cells zz26 28)) (w1.heap.size + 1) (tkC zeroT (.slice none 0 0) (.slice none 0 0))) (w1.heap.size + 1) ∧
    (∀ W, Below w1.heap.size w1 W → row? W w.heap.size 0 17 = some (adC f) ∧ row? W (w.heap.size + 1) 0 17 = some (adC g)) ∧ free? ((w1.alloc (.cells zz26 28)).alloc (.cells zz26 28)) (w.heap.size + 2 + 1) 0 26 = true := by
  refine ⟨_, rfl, by simp, ((Below.refl _ _).alloc (Nat.le_refl _) _).alloc (by simp) _, ?_, ?_, ?_⟩
  · exact QN.start ((w.alloc (.cells (adC f).toArray 24)).alloc (.cells (adC g).toArray 24))
  · intro W hW
    have h1 := ObjAt.made w (adC f).toArray 24
    have h2 := ObjAt.made (w.alloc (.cells (adC f).toArray 24)) (adC g).toArray 24
    rw [show (w.alloc (.cells (adC f).toArray 24)).heap.size = w.heap.size + 1 by simp] at h2
    have h3 := (h1.alloc (.cells (adC g).toArray 24)).below hW (by simp; omega)
    have h4 := h2.below hW (by simp)
    exact ⟨obj_rowk (A := []) (M := adC f) (C := []) (by simpa using h3) rfl (by simp [adC_length hf]), obj_rowk (A := []) (M := adC g) (C := []) (by simpa using h4) rfl (by simp [adC_length hg])⟩
  · have hfm := free_made (((w.alloc (.cells (adC f).toArray 24)).alloc (.cells (adC g).toArray 24)).alloc (.cells zz26 28)) zz26 28 26 (by simp)
    rw [show ((((w.alloc (.cells (adC f).toArray 24)).alloc (.cells (adC g).toArray 24)).alloc (.cells zz26 28))).heap.size = w.heap.size + 2 + 1 by simp] at hfm
    exact hfm
end Go.Proofs.YtlbdehegknehiaaGreat

/- A part of the proof. -/
namespace Go.Proofs.YtlbdehegknehiaaGreat
open Go.RowKit
set_option linter.unusedVariables false
set_option linter.unusedSimpArgs false
attribute [local go_sem ↓] ld_addr st_addr bld_addr ld_rec st_rec
attribute [local go_sem] ldr_addr str_addr ldr_rec str_rec
end Go.Proofs.YtlbdehegknehiaaGreat

/- A part of the proof. -/
namespace Go.Proofs.YtlbdehegknehiaaGreat
open Go.RowKit
set_option linter.unusedVariables false
set_option linter.unusedSimpArgs false
attribute [local go_sem ↓] ld_addr st_addr bld_addr ld_rec st_rec
attribute [local go_sem] ldr_addr str_addr ldr_rec str_rec
end Go.Proofs.YtlbdehegknehiaaGreat

/- A part of the proof. -/
namespace Go.Proofs.YtlbdehegknehiaaGreat
open Go.RowKit
set_option linter.unusedVariables false
set_option linter.unusedSimpArgs false
attribute [local go_sem ↓] ld_addr st_addr bld_addr ld_rec st_rec
attribute [local go_sem] ldr_addr str_addr ldr_rec str_rec
def TB9 (w W : World) (f g : AD) (t : TK) (us ur : Value) : Prop := TkAt W w.heap.size t us ur ∧ ObjAt W (w.heap.size + 1) (adC f).toArray 24 ∧ ObjAt W (w.heap.size + 2) (adC g).toArray 24 ∧ Below w.heap.size w W
theorem TB9.keep {w W W' : World} {f g : AD} {t : TK} {us ur : Value} (h : TB9 w W f g t us ur) (hb : Below W.heap.size W W') : TB9 w W' f g t us ur := ⟨h.1.below hb, h.2.1.below hb h.2.1.lt, h.2.2.1.below hb h.2.2.1.lt, bstep h.2.2.2 hb⟩
theorem TB9.drewN {w W : World} {f g : AD} {t : TK} {us ur : Value} (h : TB9 w W f g t us ur) (n : Nat) : TB9 w (W.drewN n) f g t us ur := h.keep (bdrewN (Below.refl _ _) n)
theorem TB9.made (w : World) (f g : AD) (t : TK) (us ur : Value) (h : adOk t.g) : TB9 w (((w.alloc (.cells (tkC t us ur).toArray 28)).alloc (.cells (adC f).toArray 24)).alloc (.cells (adC g).toArray 24)) f g t us ur := by
  have s1 : (w.alloc (.cells (tkC t us ur).toArray 28)).heap.size = w.heap.size + 1 := by simp
  have s2 : ((w.alloc (.cells (tkC t us ur).toArray 28)).alloc (.cells (adC f).toArray 24)).heap.size = w.heap.size + 2 := by simp
  have k1 := (Below.refl _ (w.alloc (.cells (tkC t us ur).toArray 28))).alloc (Nat.le_refl _) (.cells (adC f).toArray 24)
  have k2 := (Below.refl _ ((w.alloc (.cells (tkC t us ur).toArray 28)).alloc (.cells (adC f).toArray 24))).alloc (Nat.le_refl _) (.cells (adC g).toArray 24)
  have h0 := TB.made w t us ur h
  have h1 := ObjAt.made (w.alloc (.cells (tkC t us ur).toArray 28)) (adC f).toArray 24
  rw [s1] at h1
  have h2 := ObjAt.made ((w.alloc (.cells (tkC t us ur).toArray 28)).alloc (.cells (adC f).toArray 24)) (adC g).toArray 24
  rw [s2] at h2
  have h3 := (h0.keep k1).keep k2
  exact ⟨h3.1, h1.below k2 h1.lt, h2, h3.2⟩
end Go.Proofs.YtlbdehegknehiaaGreat

/- A part of the proof. -/
namespace Go.Proofs.YtlbdehegknehiaaGreat
open Go.RowKit
set_option linter.unusedVariables false
set_option linter.unusedSimpArgs false
attribute [local go_sem ↓] ld_addr st_addr bld_addr ld_rec st_rec
attribute [local go_sem] ldr_addr str_addr ldr_rec str_rec
end Go.Proofs.YtlbdehegknehiaaGreat

