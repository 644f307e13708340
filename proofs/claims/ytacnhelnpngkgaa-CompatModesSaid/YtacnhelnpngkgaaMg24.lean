/-
  Texts joined: TqB, Pseudo, RefPseudo, MqB, TkX, TkY, MdW, MdX.
-/
import Derived.Test.YtacnhelnpngkgaaMg23
import Derived.Test.YtacnhelnpngkgaaMg07
import Derived.Test.YtacnhelnpngkgaaMg13
import Derived.Test.YtacnhelnpngkgaaMg01
import Derived.Deep.RegionHeld3
import Derived.Test.YtacnhelnpngkgaaMg22
import Derived.Test.YtacnhelnpngkgaaMg20
import Derived.Test.YtacnhelnpngkgaaMg15
import Derived.Deep.Cut
import Derived.BigQuiet
/-
  The document's own Read of layer 8.
-/
namespace Go.Proofs.Ytacnhelnpngkgaa
open Go.RowKit
set_option linter.unusedVariables false
set_option linter.unusedSimpArgs false
attribute [local go_sem ↓] ld_addr st_addr bld_addr ld_tk st_tk bld_tk
attribute [local go_sem] ldr_addr str_addr ldr_tk str_tk

/-- The result's cell and the zero talk. -/
structure QN (w W : World) (p : Nat) : Prop where
  res : ObjAt W w.heap.size #[.bool false, .int .i64 0, .int .i64 0, .int .i64 0, .bool false, .int .u8 0, .int .u8 0, .int .u8 0, .int .u8 0, .int .u8 0, .int .u8 0, .int .u8 0, .int .u8 0, .int .u8 0, .int .u8 0, .int .u8 0, .int .u8 0, .int .u8 0, .int .u8 0, .int .u8 0, .int .u8 0, .bool false, .int .i64 0, .int .i64 0, .slice none 0 0, .slice none 0 0] 28
  zer : ObjAt W p (tkC zeroT (.slice none 0 0) (.slice none 0 0)).toArray 28
  blw : Below w.heap.size w W
  ltp : w.heap.size < p
theorem QN.start (w : World) : QN w (aggW ((w.alloc (.cells #[.bool false, .int .i64 0, .int .i64 0, .int .i64 0, .bool false, .int .u8 0, .int .u8 0, .int .u8 0, .int .u8 0, .int .u8 0, .int .u8 0, .int .u8 0, .int .u8 0, .int .u8 0, .int .u8 0, .int .u8 0, .int .u8 0, .int .u8 0, .int .u8 0, .int .u8 0, .int .u8 0, .bool false, .int .i64 0, .int .i64 0, .slice none 0 0, .slice none 0 0] 28)).alloc (.cells #[.bool false, .int .i64 0, .int .i64 0, .int .i64 0, .bool false, .int .u8 0, .int .u8 0, .int .u8 0, .int .u8 0, .int .u8 0, .int .u8 0, .int .u8 0, .int .u8 0, .int .u8 0, .int .u8 0, .int .u8 0, .int .u8 0, .int .u8 0, .int .u8 0, .int .u8 0, .int .u8 0, .bool false, .int .i64 0, .int .i64 0, .slice none 0 0, .slice none 0 0] 28)) (w.heap.size + 1) (tkC zeroT (.slice none 0 0) (.slice none 0 0))) (w.heap.size + 1) := by
  have s1 : (w.alloc (.cells #[.bool false, .int .i64 0, .int .i64 0, .int .i64 0, .bool false, .int .u8 0, .int .u8 0, .int .u8 0, .int .u8 0, .int .u8 0, .int .u8 0, .int .u8 0, .int .u8 0, .int .u8 0, .int .u8 0, .int .u8 0, .int .u8 0, .int .u8 0, .int .u8 0, .int .u8 0, .int .u8 0, .bool false, .int .i64 0, .int .i64 0, .slice none 0 0, .slice none 0 0] 28)).heap.size = w.heap.size + 1 := by simp
  have h1 := ObjAt.made (w.alloc (.cells #[.bool false, .int .i64 0, .int .i64 0, .int .i64 0, .bool false, .int .u8 0, .int .u8 0, .int .u8 0, .int .u8 0, .int .u8 0, .int .u8 0, .int .u8 0, .int .u8 0, .int .u8 0, .int .u8 0, .int .u8 0, .int .u8 0, .int .u8 0, .int .u8 0, .int .u8 0, .int .u8 0, .bool false, .int .i64 0, .int .i64 0, .slice none 0 0, .slice none 0 0] 28)) #[.bool false, .int .i64 0, .int .i64 0, .int .i64 0, .bool false, .int .u8 0, .int .u8 0, .int .u8 0, .int .u8 0, .int .u8 0, .int .u8 0, .int .u8 0, .int .u8 0, .int .u8 0, .int .u8 0, .int .u8 0, .int .u8 0, .int .u8 0, .int .u8 0, .int .u8 0, .int .u8 0, .bool false, .int .i64 0, .int .i64 0, .slice none 0 0, .slice none 0 0] 28
  rw [s1] at h1
  exact ⟨aggW_other (ObjAt.alloc (ObjAt.made w _ _) _) _ (by omega), aggW_obj (L := (#[.bool false, .int .i64 0, .int .i64 0, .int .i64 0, .bool false, .int .u8 0, .int .u8 0, .int .u8 0, .int .u8 0, .int .u8 0, .int .u8 0, .int .u8 0, .int .u8 0, .int .u8 0, .int .u8 0, .int .u8 0, .int .u8 0, .int .u8 0, .int .u8 0, .int .u8 0, .int .u8 0, .bool false, .int .i64 0, .int .i64 0, .slice none 0 0, .slice none 0 0] : Array Value).toList) (by simpa using h1) rfl (tkC_one rfl rfl), aggW_below (((Below.refl _ _).alloc (Nat.le_refl _) _).alloc (by simp) _) (by omega) _, by omega⟩
theorem QN.below {w W W' : World} {p : Nat} (h : QN w W p) (hb : Below W.heap.size W W') : QN w W' p := ⟨h.res.below hb h.res.lt, h.zer.below hb h.zer.lt, bstep h.blw hb, h.ltp⟩
theorem QN.free {w W : World} {p : Nat} (h : QN w W p) : free? W w.heap.size 0 26 = true := obj_free h.res (by simp)
theorem QN.row {w W : World} {p : Nat} (h : QN w W p) : row? W p 0 26 = some (tkC zeroT (.slice none 0 0) (.slice none 0 0)) := obj_rowk (A := []) (M := tkC zeroT (.slice none 0 0) (.slice none 0 0)) (C := []) (by simpa using h.zer) rfl rfl
/-- What Read tells. -/
def ReadP (w : World) (s : List UInt8) (x : Ending) (w' : World) : Prop := ∃ us ur, x = .returned (.tuple #[.agg (tkC (readT s).1 us ur).toArray, .int .i64 (readT s).2]) ∧ Below w.heap.size w w' ∧ adOk (readT s).1.g ∧ AdsT w' us (readT s).1.src ∧ RcT w' ur (readT s).1.rcs
/-- The talk boxed. -/
theorem QN.talk {w W : World} {p : Nat} (h : QN w W p) : QT w (aggW (W.alloc (.cells #[.bool false, .int .i64 0, .int .i64 0, .int .i64 0, .bool false, .int .u8 0, .int .u8 0, .int .u8 0, .int .u8 0, .int .u8 0, .int .u8 0, .int .u8 0, .int .u8 0, .int .u8 0, .int .u8 0, .int .u8 0, .int .u8 0, .int .u8 0, .int .u8 0, .int .u8 0, .int .u8 0, .bool false, .int .i64 0, .int .i64 0, .slice none 0 0, .slice none 0 0] 28)) W.heap.size (tkC zeroT (.slice none 0 0) (.slice none 0 0))) W.heap.size zeroT (.slice none 0 0) (.slice none 0 0) p (tkC zeroT (.slice none 0 0) (.slice none 0 0)).toArray 28 := by
  have h1 := h.zer.lt
  have h2 := h.res.lt
  have hm := ObjAt.made W #[.bool false, .int .i64 0, .int .i64 0, .int .i64 0, .bool false, .int .u8 0, .int .u8 0, .int .u8 0, .int .u8 0, .int .u8 0, .int .u8 0, .int .u8 0, .int .u8 0, .int .u8 0, .int .u8 0, .int .u8 0, .int .u8 0, .int .u8 0, .int .u8 0, .int .u8 0, .int .u8 0, .bool false, .int .i64 0, .int .i64 0, .slice none 0 0, .slice none 0 0] 28
  exact ⟨aggW_other (h.res.alloc _) _ (by omega), ⟨aggW_obj (L := (#[.bool false, .int .i64 0, .int .i64 0, .int .i64 0, .bool false, .int .u8 0, .int .u8 0, .int .u8 0, .int .u8 0, .int .u8 0, .int .u8 0, .int .u8 0, .int .u8 0, .int .u8 0, .int .u8 0, .int .u8 0, .int .u8 0, .int .u8 0, .int .u8 0, .int .u8 0, .int .u8 0, .bool false, .int .i64 0, .int .i64 0, .slice none 0 0, .slice none 0 0] : Array Value).toList) (by simpa using hm) rfl (tkC_one rfl rfl), zeroA_ok⟩, aggW_below (h.blw.alloc (by omega) _) (by omega) _, h2, AdsT.nil _, RcT.nil _, aggW_other (h.zer.alloc _) _ (by omega), h.ltp, by omega⟩
theorem QT.n {w W : World} {m p : Nat} {t : TK} {us ur : Value} (h : QT w W m t us ur p (tkC zeroT (.slice none 0 0) (.slice none 0 0)).toArray 28) : QN w W p := ⟨h.res, h.more, h.blw, h.ltp⟩
end Go.Proofs.Ytacnhelnpngkgaa

/-
  The contract of sum.Pseudo.
-/
namespace Go.Proofs.Ytacnhelnpngkgaa
open Go.RowKit
set_option linter.unusedVariables false

end Go.Proofs.Ytacnhelnpngkgaa

/-
  The contract of the document's own pseudo header.
-/
namespace Go.Proofs.Ytacnhelnpngkgaa
open Go.RowKit
set_option linter.unusedVariables false

end Go.Proofs.Ytacnhelnpngkgaa

/-
  The document's own Read of layer 9.
-/
namespace Go.Proofs.Ytacnhelnpngkgaa
open Go.RowKit
set_option linter.unusedVariables false
set_option linter.unusedSimpArgs false
attribute [local go_sem ↓] ld_addr st_addr bld_addr ld_tk st_tk bld_tk
attribute [local go_sem] ldr_addr str_addr ldr_tk str_tk

end Go.Proofs.Ytacnhelnpngkgaa

/-
  The document's own Write of layer 8: a query of version 3.
-/
namespace Go.Proofs.Ytacnhelnpngkgaa
open Go.RowKit
set_option linter.unusedVariables false
set_option linter.unusedSimpArgs false
attribute [local go_sem ↓] ld_addr st_addr bld_addr ld_rec st_rec
attribute [local go_sem] ldr_addr str_addr ldr_rec str_rec

end Go.Proofs.Ytacnhelnpngkgaa

/-
  The document's own Write of layer 8: a report of version 3, and any good talk.
-/
namespace Go.Proofs.Ytacnhelnpngkgaa
open Go.RowKit
set_option linter.unusedVariables false
set_option linter.unusedSimpArgs false
attribute [local go_sem ↓] ld_addr st_addr bld_addr ld_rec st_rec
attribute [local go_sem] ldr_addr str_addr ldr_rec str_rec

end Go.Proofs.Ytacnhelnpngkgaa

/-
  The document's own Write of layer 9: talks of version 1.
-/
namespace Go.Proofs.Ytacnhelnpngkgaa
open Go.RowKit
set_option linter.unusedVariables false
set_option linter.unusedSimpArgs false
attribute [local go_sem ↓] ld_addr st_addr bld_addr ld_rec st_rec
attribute [local go_sem] ldr_addr str_addr ldr_rec str_rec

/-- The talk and its addresses boxed. -/
def TB9 (w W : World) (f g : AD) (t : TK) (us ur : Value) : Prop := TkAt W w.heap.size t us ur ∧ ObjAt W (w.heap.size + 1) (adC f).toArray 24 ∧ ObjAt W (w.heap.size + 2) (adC g).toArray 24 ∧ Below w.heap.size w W
theorem TB9.keep {w W W' : World} {f g : AD} {t : TK} {us ur : Value} (h : TB9 w W f g t us ur) (hb : Below W.heap.size W W') : TB9 w W' f g t us ur := ⟨h.1.below hb, h.2.1.below hb h.2.1.lt, h.2.2.1.below hb h.2.2.1.lt, bstep h.2.2.2 hb⟩
theorem TB9.drewN {w W : World} {f g : AD} {t : TK} {us ur : Value} (h : TB9 w W f g t us ur) (n : Nat) : TB9 w (W.drewN n) f g t us ur := h.keep (bdrewN (Below.refl _ _) n)
theorem TB9.made (w : World) (f g : AD) (t : TK) (us ur : Value) (h : adOk t.g) : TB9 w (((w.alloc (.cells (tkC t us ur).toArray 28)).alloc (.cells (adC f).toArray 24)).alloc (.cells (adC g).toArray 24)) f g t us ur := by
  have s1 : (w.alloc (.cells (tkC t us ur).toArray 28)).heap.size = w.heap.size + 1 := by simp
  have s2 : ((w.alloc (.cells (tkC t us ur).toArray 28)).alloc (.cells (adC f).toArray 24)).heap.size = w.heap.size + 2 := by simp
  have k1 := (Below.refl _ (w.alloc (.cells (tkC t us ur).toArray 28))).alloc (Nat.le_refl _) (.cells (adC f).toArray 24)
  have k2 := (Below.refl _ ((w.alloc (.cells (tkC t us ur).toArray 28)).alloc (.cells (adC f).toArray 24))).alloc (Nat.le_refl _) (.cells (adC g).toArray 24)
  have h0 := TB.made w t us ur h
  have h1 := ObjAt.made (w.alloc (.cells (tkC t us ur).toArray 28)) (adC f).toArray 24
  rw [s1] at h1
  have h2 := ObjAt.made ((w.alloc (.cells (tkC t us ur).toArray 28)).alloc (.cells (adC f).toArray 24)) (adC g).toArray 24
  rw [s2] at h2
  have h3 := (h0.keep k1).keep k2
  exact ⟨h3.1, h1.below k2 h1.lt, h2, h3.2⟩
end Go.Proofs.Ytacnhelnpngkgaa

/-
  The document's own Write of layer 9: a query of version 2.
-/
namespace Go.Proofs.Ytacnhelnpngkgaa
open Go.RowKit
set_option linter.unusedVariables false
set_option linter.unusedSimpArgs false
attribute [local go_sem ↓] ld_addr st_addr bld_addr ld_rec st_rec
attribute [local go_sem] ldr_addr str_addr ldr_rec str_rec


end Go.Proofs.Ytacnhelnpngkgaa

