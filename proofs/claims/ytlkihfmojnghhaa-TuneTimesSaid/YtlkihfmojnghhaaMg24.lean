/-
  Texts joined: TrA, TqB, Pseudo, RefPseudo, MqB, TkX, TkY, MdW, MdX.
-/
import Derived.Test.YtlkihfmojnghhaaTr
import Derived.Test.YtlkihfmojnghhaaMg22
import Derived.Deep.CutRange
import Derived.Deep.LoopGhost
import Derived.Test.YtlkihfmojnghhaaTqA
import Derived.Test.YtlkihfmojnghhaaMg07
import Derived.Test.YtlkihfmojnghhaaMg13
import Derived.Test.YtlkihfmojnghhaaMg01
import Derived.Deep.RegionHeld3
import Derived.Test.YtlkihfmojnghhaaMg20
import Derived.Test.YtlkihfmojnghhaaMg15
import Derived.Deep.Cut
import Derived.BigQuiet
/-
  The document's own records of layer 8: the records of a report, read one after the other.
-/
namespace Go.Proofs.Ytlkihfmojnghhaa
open Go.RowKit
set_option linter.unusedVariables false
set_option linter.unusedSimpArgs false
attribute [local go_sem ↓] ld_addr st_addr bld_addr ld_rec st_rec bld_rec rcsLit_eq
attribute [local go_sem] ldr_addr str_addr ldr_rec str_rec

/-- What is left to read of a report's records. -/
def RS (s : List UInt8) (n i m : Nat) (acc : List RC) : Prop := (recL s 8 n).2 = (recL s i m).2 ∧ ((recL s i m).2 = 0 → (recL s 8 n).1 = acc ++ (recL s i m).1)
theorem RS.start (s : List UInt8) (n : Nat) : RS s n 8 n [] := ⟨rfl, fun _ => by simp⟩
theorem RS.done {s : List UInt8} {n i : Nat} {acc : List RC} (h : RS s n i 0 acc) : recL s 8 n = (acc, 0) := by
  obtain ⟨h1, h2⟩ := h
  have e : recL s i 0 = ([], 0) := by unfold recL; rfl
  rw [e] at h1 h2
  exact Prod.ext (by rw [h2 rfl]; simp) h1
theorem RS.step {s : List UInt8} {n i m : Nat} {acc : List RC} (h : RS s n i (m + 1) acc) (h1 : ¬ s.length < i + 8) (h2 : srcsE s (i + 8) (wd s (i + 2)) = 0) (h3 : ¬ s.length < recN s i) :
    RS s n (recN s i) m (if rcOk (rec1 s i) then acc ++ [rec1 s i] else acc) := by
  obtain ⟨a1, a2⟩ := h
  have e : recL s i (m + 1) = if (recL s (recN s i) m).2 ≠ 0 then ([], (recL s (recN s i) m).2) else (if rcOk (rec1 s i) then rec1 s i :: (recL s (recN s i) m).1 else (recL s (recN s i) m).1, 0) := by
    conv => lhs; unfold recL
    rw [if_neg h1, if_neg (by rw [h2]; simp), if_neg h3]
  rw [e] at a1 a2
  by_cases hz : (recL s (recN s i) m).2 = 0
  · rw [if_neg (by rw [hz]; simp)] at a1 a2
    refine ⟨by rw [a1, hz], fun _ => ?_⟩
    rw [a2 rfl]
    split <;> simp
  · rw [if_pos hz] at a1
    exact ⟨a1, fun h => absurd h hz⟩
/-- A record that has been boxed in the region. -/
def RG8 (w0 W : World) (m : Nat) (r : RC) (u : Value) : Prop := RcU W m 0 r u ∧ Below w0.heap.size w0 W ∧ w0.heap.size ≤ m
theorem RG8.below {w0 W W' : World} {m : Nat} {r : RC} {u : Value} (h : RG8 w0 W m r u) (hb : Below W.heap.size W W') : RG8 w0 W' m r u := ⟨h.1.below hb, bstep h.2.1 hb, h.2.2⟩
end Go.Proofs.Ytlkihfmojnghhaa

/-
  The document's own Read of layer 8.
-/
namespace Go.Proofs.Ytlkihfmojnghhaa
open Go.RowKit
set_option linter.unusedVariables false
set_option linter.unusedSimpArgs false
attribute [local go_sem ↓] ld_addr st_addr bld_addr ld_tk st_tk bld_tk
attribute [local go_sem] ldr_addr str_addr ldr_tk str_tk

/-- The result's cell and the zero talk. -/
structure QN (w W : World) (p : Nat) : Prop where
  res : ObjAt W w.heap.size #[.bool false, .int .i64 0, .int .i64 0, .int .i64 0, .bool false, .int .u8 0, .int .u8 0, .int .u8 0, .int .u8 0, .int .u8 0, .int .u8 0, .int .u8 0, .int .u8 0, .int .u8 0, .int .u8 0, .int .u8 0, .int .u8 0, .int .u8 0, .int .u8 0, .int .u8 0, .int .u8 0, .bool false, .int .i64 0, .int .i64 0, .slice none 0 0, .slice none 0 0] 35
  zer : ObjAt W p (tkC zeroT (.slice none 0 0) (.slice none 0 0)).toArray 35
  blw : Below w.heap.size w W
  ltp : w.heap.size < p
theorem QN.start (w : World) : QN w (aggW ((w.alloc (.cells #[.bool false, .int .i64 0, .int .i64 0, .int .i64 0, .bool false, .int .u8 0, .int .u8 0, .int .u8 0, .int .u8 0, .int .u8 0, .int .u8 0, .int .u8 0, .int .u8 0, .int .u8 0, .int .u8 0, .int .u8 0, .int .u8 0, .int .u8 0, .int .u8 0, .int .u8 0, .int .u8 0, .bool false, .int .i64 0, .int .i64 0, .slice none 0 0, .slice none 0 0] 35)).alloc (.cells #[.bool false, .int .i64 0, .int .i64 0, .int .i64 0, .bool false, .int .u8 0, .int .u8 0, .int .u8 0, .int .u8 0, .int .u8 0, .int .u8 0, .int .u8 0, .int .u8 0, .int .u8 0, .int .u8 0, .int .u8 0, .int .u8 0, .int .u8 0, .int .u8 0, .int .u8 0, .int .u8 0, .bool false, .int .i64 0, .int .i64 0, .slice none 0 0, .slice none 0 0] 35)) (w.heap.size + 1) (tkC zeroT (.slice none 0 0) (.slice none 0 0))) (w.heap.size + 1) := by
  have s1 : (w.alloc (.cells #[.bool false, .int .i64 0, .int .i64 0, .int .i64 0, .bool false, .int .u8 0, .int .u8 0, .int .u8 0, .int .u8 0, .int .u8 0, .int .u8 0, .int .u8 0, .int .u8 0, .int .u8 0, .int .u8 0, .int .u8 0, .int .u8 0, .int .u8 0, .int .u8 0, .int .u8 0, .int .u8 0, .bool false, .int .i64 0, .int .i64 0, .slice none 0 0, .slice none 0 0] 35)).heap.size = w.heap.size + 1 := by simp
  have h1 := ObjAt.made (w.alloc (.cells #[.bool false, .int .i64 0, .int .i64 0, .int .i64 0, .bool false, .int .u8 0, .int .u8 0, .int .u8 0, .int .u8 0, .int .u8 0, .int .u8 0, .int .u8 0, .int .u8 0, .int .u8 0, .int .u8 0, .int .u8 0, .int .u8 0, .int .u8 0, .int .u8 0, .int .u8 0, .int .u8 0, .bool false, .int .i64 0, .int .i64 0, .slice none 0 0, .slice none 0 0] 35)) #[.bool false, .int .i64 0, .int .i64 0, .int .i64 0, .bool false, .int .u8 0, .int .u8 0, .int .u8 0, .int .u8 0, .int .u8 0, .int .u8 0, .int .u8 0, .int .u8 0, .int .u8 0, .int .u8 0, .int .u8 0, .int .u8 0, .int .u8 0, .int .u8 0, .int .u8 0, .int .u8 0, .bool false, .int .i64 0, .int .i64 0, .slice none 0 0, .slice none 0 0] 35
  rw [s1] at h1
  exact ⟨aggW_other (ObjAt.alloc (ObjAt.made w _ _) _) _ (by omega), aggW_obj (L := (#[.bool false, .int .i64 0, .int .i64 0, .int .i64 0, .bool false, .int .u8 0, .int .u8 0, .int .u8 0, .int .u8 0, .int .u8 0, .int .u8 0, .int .u8 0, .int .u8 0, .int .u8 0, .int .u8 0, .int .u8 0, .int .u8 0, .int .u8 0, .int .u8 0, .int .u8 0, .int .u8 0, .bool false, .int .i64 0, .int .i64 0, .slice none 0 0, .slice none 0 0] : Array Value).toList) (by simpa using h1) rfl (tkC_one rfl rfl), aggW_below (((Below.refl _ _).alloc (Nat.le_refl _) _).alloc (by simp) _) (by omega) _, by omega⟩
theorem QN.below {w W W' : World} {p : Nat} (h : QN w W p) (hb : Below W.heap.size W W') : QN w W' p := ⟨h.res.below hb h.res.lt, h.zer.below hb h.zer.lt, bstep h.blw hb, h.ltp⟩
theorem QN.free {w W : World} {p : Nat} (h : QN w W p) : free? W w.heap.size 0 26 = true := obj_free h.res (by simp)
theorem QN.row {w W : World} {p : Nat} (h : QN w W p) : row? W p 0 26 = some (tkC zeroT (.slice none 0 0) (.slice none 0 0)) := obj_rowk (A := []) (M := tkC zeroT (.slice none 0 0) (.slice none 0 0)) (C := []) (by simpa using h.zer) rfl rfl
/-- What Read tells. -/
def ReadP (w : World) (s : List UInt8) (x : Ending) (w' : World) : Prop := ∃ us ur, x = .returned (.tuple #[.agg (tkC (readT s).1 us ur).toArray, .int .i64 (readT s).2]) ∧ Below w.heap.size w w' ∧ adOk (readT s).1.g ∧ AdsT w' us (readT s).1.src ∧ RcT w' ur (readT s).1.rcs
/-- The talk boxed. -/
theorem QN.talk {w W : World} {p : Nat} (h : QN w W p) : QT w (aggW (W.alloc (.cells #[.bool false, .int .i64 0, .int .i64 0, .int .i64 0, .bool false, .int .u8 0, .int .u8 0, .int .u8 0, .int .u8 0, .int .u8 0, .int .u8 0, .int .u8 0, .int .u8 0, .int .u8 0, .int .u8 0, .int .u8 0, .int .u8 0, .int .u8 0, .int .u8 0, .int .u8 0, .int .u8 0, .bool false, .int .i64 0, .int .i64 0, .slice none 0 0, .slice none 0 0] 35)) W.heap.size (tkC zeroT (.slice none 0 0) (.slice none 0 0))) W.heap.size zeroT (.slice none 0 0) (.slice none 0 0) p (tkC zeroT (.slice none 0 0) (.slice none 0 0)).toArray 35 := by
  have h1 := h.zer.lt
  have h2 := h.res.lt
  have hm := ObjAt.made W #[.bool false, .int .i64 0, .int .i64 0, .int .i64 0, .bool false, .int .u8 0, .int .u8 0, .int .u8 0, .int .u8 0, .int .u8 0, .int .u8 0, .int .u8 0, .int .u8 0, .int .u8 0, .int .u8 0, .int .u8 0, .int .u8 0, .int .u8 0, .int .u8 0, .int .u8 0, .int .u8 0, .bool false, .int .i64 0, .int .i64 0, .slice none 0 0, .slice none 0 0] 35
  exact ⟨aggW_other (h.res.alloc _) _ (by omega), ⟨aggW_obj (L := (#[.bool false, .int .i64 0, .int .i64 0, .int .i64 0, .bool false, .int .u8 0, .int .u8 0, .int .u8 0, .int .u8 0, .int .u8 0, .int .u8 0, .int .u8 0, .int .u8 0, .int .u8 0, .int .u8 0, .int .u8 0, .int .u8 0, .int .u8 0, .int .u8 0, .int .u8 0, .int .u8 0, .bool false, .int .i64 0, .int .i64 0, .slice none 0 0, .slice none 0 0] : Array Value).toList) (by simpa using hm) rfl (tkC_one rfl rfl), zeroA_ok⟩, aggW_below (h.blw.alloc (by omega) _) (by omega) _, h2, AdsT.nil _, RcT.nil _, aggW_other (h.zer.alloc _) _ (by omega), h.ltp, by omega⟩
theorem QT.n {w W : World} {m p : Nat} {t : TK} {us ur : Value} (h : QT w W m t us ur p (tkC zeroT (.slice none 0 0) (.slice none 0 0)).toArray 35) : QN w W p := ⟨h.res, h.more, h.blw, h.ltp⟩
end Go.Proofs.Ytlkihfmojnghhaa

/-
  The contract of sum.Pseudo.
-/
namespace Go.Proofs.Ytlkihfmojnghhaa
open Go.RowKit
set_option linter.unusedVariables false

end Go.Proofs.Ytlkihfmojnghhaa

/-
  The contract of the document's own pseudo header.
-/
namespace Go.Proofs.Ytlkihfmojnghhaa
open Go.RowKit
set_option linter.unusedVariables false

end Go.Proofs.Ytlkihfmojnghhaa

/-
  The document's own Read of layer 9.
-/
namespace Go.Proofs.Ytlkihfmojnghhaa
open Go.RowKit
set_option linter.unusedVariables false
set_option linter.unusedSimpArgs false
attribute [local go_sem ↓] ld_addr st_addr bld_addr ld_tk st_tk bld_tk
attribute [local go_sem] ldr_addr str_addr ldr_tk str_tk

end Go.Proofs.Ytlkihfmojnghhaa

/-
  The document's own Write of layer 8: a query of version 3.
-/
namespace Go.Proofs.Ytlkihfmojnghhaa
open Go.RowKit
set_option linter.unusedVariables false
set_option linter.unusedSimpArgs false
attribute [local go_sem ↓] ld_addr st_addr bld_addr ld_rec st_rec
attribute [local go_sem] ldr_addr str_addr ldr_rec str_rec

end Go.Proofs.Ytlkihfmojnghhaa

/-
  The document's own Write of layer 8: a report of version 3, and any good talk.
-/
namespace Go.Proofs.Ytlkihfmojnghhaa
open Go.RowKit
set_option linter.unusedVariables false
set_option linter.unusedSimpArgs false
attribute [local go_sem ↓] ld_addr st_addr bld_addr ld_rec st_rec
attribute [local go_sem] ldr_addr str_addr ldr_rec str_rec

end Go.Proofs.Ytlkihfmojnghhaa

/-
  The document's own Write of layer 9: talks of version 1.
-/
namespace Go.Proofs.Ytlkihfmojnghhaa
open Go.RowKit
set_option linter.unusedVariables false
set_option linter.unusedSimpArgs false
attribute [local go_sem ↓] ld_addr st_addr bld_addr ld_rec st_rec
attribute [local go_sem] ldr_addr str_addr ldr_rec str_rec

/-- The talk and its addresses boxed. -/
def TB9 (w W : World) (f g : AD) (t : TK) (us ur : Value) : Prop := TkAt W w.heap.size t us ur ∧ ObjAt W (w.heap.size + 1) (adC f).toArray 31 ∧ ObjAt W (w.heap.size + 2) (adC g).toArray 31 ∧ Below w.heap.size w W
theorem TB9.keep {w W W' : World} {f g : AD} {t : TK} {us ur : Value} (h : TB9 w W f g t us ur) (hb : Below W.heap.size W W') : TB9 w W' f g t us ur := ⟨h.1.below hb, h.2.1.below hb h.2.1.lt, h.2.2.1.below hb h.2.2.1.lt, bstep h.2.2.2 hb⟩
theorem TB9.drewN {w W : World} {f g : AD} {t : TK} {us ur : Value} (h : TB9 w W f g t us ur) (n : Nat) : TB9 w (W.drewN n) f g t us ur := h.keep (bdrewN (Below.refl _ _) n)
theorem TB9.made (w : World) (f g : AD) (t : TK) (us ur : Value) (h : adOk t.g) : TB9 w (((w.alloc (.cells (tkC t us ur).toArray 35)).alloc (.cells (adC f).toArray 31)).alloc (.cells (adC g).toArray 31)) f g t us ur := by
  have s1 : (w.alloc (.cells (tkC t us ur).toArray 35)).heap.size = w.heap.size + 1 := by simp
  have s2 : ((w.alloc (.cells (tkC t us ur).toArray 35)).alloc (.cells (adC f).toArray 31)).heap.size = w.heap.size + 2 := by simp
  have k1 := (Below.refl _ (w.alloc (.cells (tkC t us ur).toArray 35))).alloc (Nat.le_refl _) (.cells (adC f).toArray 31)
  have k2 := (Below.refl _ ((w.alloc (.cells (tkC t us ur).toArray 35)).alloc (.cells (adC f).toArray 31))).alloc (Nat.le_refl _) (.cells (adC g).toArray 31)
  have h0 := TB.made w t us ur h
  have h1 := ObjAt.made (w.alloc (.cells (tkC t us ur).toArray 35)) (adC f).toArray 31
  rw [s1] at h1
  have h2 := ObjAt.made ((w.alloc (.cells (tkC t us ur).toArray 35)).alloc (.cells (adC f).toArray 31)) (adC g).toArray 31
  rw [s2] at h2
  have h3 := (h0.keep k1).keep k2
  exact ⟨h3.1, h1.below k2 h1.lt, h2, h3.2⟩
end Go.Proofs.Ytlkihfmojnghhaa

/-
  The document's own Write of layer 9: a query of version 2.
-/
namespace Go.Proofs.Ytlkihfmojnghhaa
open Go.RowKit
set_option linter.unusedVariables false
set_option linter.unusedSimpArgs false
attribute [local go_sem ↓] ld_addr st_addr bld_addr ld_rec st_rec
attribute [local go_sem] ldr_addr str_addr ldr_rec str_rec


end Go.Proofs.Ytlkihfmojnghhaa

