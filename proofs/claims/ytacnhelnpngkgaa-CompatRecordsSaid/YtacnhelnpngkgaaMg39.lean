/-
  Texts joined: MgH, FrB, IgD, FrC, FrS, FrG.
-/
import Derived.Test.YtacnhelnpngkgaaMg38
import Derived.Test.YtacnhelnpngkgaaMg27
import Derived.Test.YtacnhelnpngkgaaMg36
import Derived.Test.YtacnhelnpngkgaaMg37
import Derived.Test.YtacnhelnpngkgaaIp
/-
  The contracts of mld's Read and Is.
-/
namespace Go.Proofs.Ytacnhelnpngkgaa
open Go.RowKit
set_option linter.unusedVariables false
set_option linter.unusedSimpArgs false
attribute [local go_sem ↓] ld_addr st_addr bld_addr ld_tk st_tk bld_tk adsLit2_eq
attribute [local go_sem] ldr_addr str_addr ldr_tk str_tk row?_drew_eq

/-- The boxes of the two addresses, the result's block. -/
def BX9 (w W : World) (f g : AD) : Prop := ObjAt W w.heap.size (adC f).toArray 24 ∧ ObjAt W (w.heap.size + 1) (adC g).toArray 24 ∧ ObjAt W (w.heap.size + 2) #[.bool false, .int .i64 0, .int .i64 0, .int .i64 0, .bool false, .int .u8 0, .int .u8 0, .int .u8 0, .int .u8 0, .int .u8 0, .int .u8 0, .int .u8 0, .int .u8 0, .int .u8 0, .int .u8 0, .int .u8 0, .int .u8 0, .int .u8 0, .int .u8 0, .int .u8 0, .int .u8 0, .bool false, .int .i64 0, .int .i64 0, .slice none 0 0, .slice none 0 0] 28 ∧ Below w.heap.size w W
theorem BX9.start (w : World) (f g : AD) : BX9 w (((w.alloc (.cells (adC f).toArray 24)).alloc (.cells (adC g).toArray 24)).alloc (.cells #[.bool false, .int .i64 0, .int .i64 0, .int .i64 0, .bool false, .int .u8 0, .int .u8 0, .int .u8 0, .int .u8 0, .int .u8 0, .int .u8 0, .int .u8 0, .int .u8 0, .int .u8 0, .int .u8 0, .int .u8 0, .int .u8 0, .int .u8 0, .int .u8 0, .int .u8 0, .int .u8 0, .bool false, .int .i64 0, .int .i64 0, .slice none 0 0, .slice none 0 0] 28)) f g := by
  have s1 : (w.alloc (.cells (adC f).toArray 24)).heap.size = w.heap.size + 1 := by simp
  have s2 : ((w.alloc (.cells (adC f).toArray 24)).alloc (.cells (adC g).toArray 24)).heap.size = w.heap.size + 2 := by simp
  have k1 := (Below.refl w.heap.size w).alloc (Nat.le_refl _) (.cells (adC f).toArray 24)
  have k2 := (Below.refl _ (w.alloc (.cells (adC f).toArray 24))).alloc (Nat.le_refl _) (.cells (adC g).toArray 24)
  have k3 := (Below.refl _ ((w.alloc (.cells (adC f).toArray 24)).alloc (.cells (adC g).toArray 24))).alloc (Nat.le_refl _) (.cells #[.bool false, .int .i64 0, .int .i64 0, .int .i64 0, .bool false, .int .u8 0, .int .u8 0, .int .u8 0, .int .u8 0, .int .u8 0, .int .u8 0, .int .u8 0, .int .u8 0, .int .u8 0, .int .u8 0, .int .u8 0, .int .u8 0, .int .u8 0, .int .u8 0, .int .u8 0, .int .u8 0, .bool false, .int .i64 0, .int .i64 0, .slice none 0 0, .slice none 0 0] 28)
  have o1 := ObjAt.made w (adC f).toArray 24
  have o2 := ObjAt.made (w.alloc (.cells (adC f).toArray 24)) (adC g).toArray 24
  rw [s1] at o2
  have o3 := ObjAt.made ((w.alloc (.cells (adC f).toArray 24)).alloc (.cells (adC g).toArray 24)) #[.bool false, .int .i64 0, .int .i64 0, .int .i64 0, .bool false, .int .u8 0, .int .u8 0, .int .u8 0, .int .u8 0, .int .u8 0, .int .u8 0, .int .u8 0, .int .u8 0, .int .u8 0, .int .u8 0, .int .u8 0, .int .u8 0, .int .u8 0, .int .u8 0, .int .u8 0, .int .u8 0, .bool false, .int .i64 0, .int .i64 0, .slice none 0 0, .slice none 0 0] 28
  rw [s2] at o3
  have q1 := o1.below k2 o1.lt
  exact ⟨q1.below k3 q1.lt, o2.below k3 o2.lt, o3, bstep (bstep k1 k2) k3⟩
theorem BX9.below {w W W' : World} {f g : AD} (h : BX9 w W f g) (hb : Below W.heap.size W W') : BX9 w W' f g := ⟨h.1.below hb h.1.lt, h.2.1.below hb h.2.1.lt, h.2.2.1.below hb h.2.2.1.lt, bstep h.2.2.2 hb⟩
/-- The result's block alone. -/
def RA9 (w W : World) : Prop := ObjAt W (w.heap.size + 2) #[.bool false, .int .i64 0, .int .i64 0, .int .i64 0, .bool false, .int .u8 0, .int .u8 0, .int .u8 0, .int .u8 0, .int .u8 0, .int .u8 0, .int .u8 0, .int .u8 0, .int .u8 0, .int .u8 0, .int .u8 0, .int .u8 0, .int .u8 0, .int .u8 0, .int .u8 0, .int .u8 0, .bool false, .int .i64 0, .int .i64 0, .slice none 0 0, .slice none 0 0] 28 ∧ Below w.heap.size w W
theorem BX9.ra {w W : World} {f g : AD} (h : BX9 w W f g) : RA9 w W := ⟨h.2.2.1, h.2.2.2⟩
theorem RA9.below {w W W' : World} (h : RA9 w W) (hb : Below W.heap.size W W') : RA9 w W' := ⟨h.1.below hb h.1.lt, bstep h.2 hb⟩
theorem RA9.free {w W : World} (h : RA9 w W) : free? W (w.heap.size + 2) 0 26 = true := obj_free h.1 (by simp)
theorem RA9.zero {w W : World} (h : RA9 w W) : row? (aggW W (w.heap.size + 2) (tkC zeroT (.slice none 0 0) (.slice none 0 0))) (w.heap.size + 2) 0 26 = some (tkC zeroT (.slice none 0 0) (.slice none 0 0)) ∧ Below w.heap.size w (aggW W (w.heap.size + 2) (tkC zeroT (.slice none 0 0) (.slice none 0 0))) :=
  ⟨aggW_row h.free (tkC_length zeroA_ok _ _), aggW_below h.2 (by omega) _⟩
/-- A talk that has been read. -/
structure RC9m (w W : World) (m : Nat) (t : TK) (us ur : Value) : Prop where
  ra : RA9 w W
  tk : TkAt W m t us ur
  src : AdsT W us t.src
  rcs : RcT W ur t.rcs
theorem RC9m.c {w W : World} {m : Nat} {t : TK} {us ur : Value} (h : RC9m w W m t us ur) : row? W m 0 26 = some (tkC t us ur) ∧ free? W (w.heap.size + 2) 0 26 = true ∧ fok (tkC t us ur).toArray 26 = true := ⟨h.tk.row, h.ra.free, fok_tk h.tk.2 h.src.1.one h.rcs.rcs.one⟩
theorem RC9m.done {w W : World} {m : Nat} {t : TK} {us ur : Value} (h : RC9m w W m t us ur) : row? (aggW W (w.heap.size + 2) (tkC t us ur)) (w.heap.size + 2) 0 26 = some (tkC t us ur) ∧ Below w.heap.size w (aggW W (w.heap.size + 2) (tkC t us ur)) ∧ AdsT (aggW W (w.heap.size + 2) (tkC t us ur)) us t.src ∧ RcT (aggW W (w.heap.size + 2) (tkC t us ur)) ur t.rcs ∧ adOk t.g :=
  ⟨aggW_row h.ra.free (tkC_length h.tk.2 _ _), aggW_below h.ra.2 (by omega) _, h.src.far9 h.ra.1 (by decide) (aggW_grown _ _ _), h.rcs.far9 h.ra.1 (by decide) (by decide) (aggW_grown _ _ _), h.tk.2⟩
end Go.Proofs.Ytacnhelnpngkgaa

/-
  The contracts of frame's mayTell, isTalk, goodPacket, writePacket, dataPacket and Dest.
-/
namespace Go.Proofs.Ytacnhelnpngkgaa
open Go.RowKit
set_option linter.unusedVariables false
set_option linter.unusedSimpArgs false
attribute [local go_sem ↓] ld_addr st_addr bld_addr ld_tk st_tk bld_tk bld_b16
attribute [local go_sem] ldr_addr str_addr str_addr_at ldr_tk str_tk row?_drewN_eq row?_drew_eq


end Go.Proofs.Ytacnhelnpngkgaa

/-
  The contract of igmp's Good.
-/
namespace Go.Proofs.Ytacnhelnpngkgaa
open Go.RowKit
set_option linter.unusedVariables false
set_option linter.unusedSimpArgs false
end Go.Proofs.Ytacnhelnpngkgaa

/-
  The contract of frame's Dest.
-/
namespace Go.Proofs.Ytacnhelnpngkgaa
open Go.RowKit
set_option linter.unusedVariables false
set_option linter.unusedSimpArgs false
attribute [local go_sem ↓] ld_addr st_addr bld_addr ld_tk st_tk bld_tk
attribute [local go_sem] ldr_addr str_addr str_addr_at ldr_tk str_tk str_tk_at row?_drewN_eq row?_drew_eq


theorem Bx.drewN {w W : World} {c d : Array Value} {T U : TypeId} (h : Bx w W c T d U) (n : Nat) : Bx w (W.drewN n) c T d U := ⟨h.one, h.two, bdrewN h.blw n⟩

end Go.Proofs.Ytacnhelnpngkgaa

/-
  The contracts of frame's Same, and of the document's own.
-/
namespace Go.Proofs.Ytacnhelnpngkgaa
open Go.RowKit
set_option linter.unusedVariables false
set_option linter.unusedSimpArgs false
attribute [local go_sem ↓] ld_addr st_addr bld_addr ld_tk st_tk bld_tk
attribute [local go_sem] ldr_addr str_addr str_addr_at ldr_tk str_tk row?_drewN_eq row?_drew_eq


end Go.Proofs.Ytacnhelnpngkgaa

/-
  The contracts of frame's goodTalk, goodData and Good.
-/
namespace Go.Proofs.Ytacnhelnpngkgaa
open Go.RowKit
set_option linter.unusedVariables false
set_option linter.unusedSimpArgs false
attribute [local go_sem ↓] ld_addr st_addr bld_addr ld_tk st_tk bld_tk
attribute [local go_sem] ldr_addr str_addr ldr_tk str_tk str_tk_at row?_drewN_eq row?_drew_eq


/-- A block boxed first, and one made later. -/
structure Bo2 (w W : World) (m : Nat) (c : Array Value) (T : TypeId) (L : List Value) (U : TypeId) : Prop where
  one : ObjAt W w.heap.size c T
  two : ObjAt W m L.toArray U
  blw : Below w.heap.size w W
  lt : w.heap.size < m
theorem Bo2.below {w W W' : World} {m : Nat} {c : Array Value} {T U : TypeId} {L : List Value} (h : Bo2 w W m c T L U) (hb : Below W.heap.size W W') : Bo2 w W' m c T L U := ⟨obj_keep h.one hb, obj_keep h.two hb, bstep h.blw hb, h.lt⟩
theorem Bo2.made {w W : World} {c Z : Array Value} {T U : TypeId} {L : List Value} (h : ObjAt W w.heap.size c T) (hb : Below w.heap.size w W) (hl : L.length = Z.size) (h1 : ∀ v ∈ L, v.oneCell' = true) : Bo2 w (aggW (W.alloc (.cells Z U)) W.heap.size L) W.heap.size c T L U := by
  have hlt := h.lt
  refine ⟨aggW_other (h.alloc _) _ (by omega), ?_, aggW_below (hb.alloc (by omega) _) (by omega) _, hlt⟩
  exact aggW_obj (L := Z.toList) (by simpa using ObjAt.made W Z U) (by simpa using hl) h1
theorem Bo2.free {w W : World} {m : Nat} {c : Array Value} {T U : TypeId} {L : List Value} (h : Bo2 w W m c T L U) (o n : Nat) (hn : o + n ≤ L.length) : free? W m o n = true := obj_free_at h.two o n (by simpa using hn)
theorem Bo2.over {w W : World} {m : Nat} {c : Array Value} {T U : TypeId} {L : List Value} (h : Bo2 w W m c T L U) (o : Nat) (cs : List Value) (hf : o + cs.length ≤ L.length) (h1 : ∀ v ∈ cs, v.oneCell' = true) : Bo2 w (aggO W m o cs) m c T (over L o cs) U := by
  have hlt := h.lt
  exact ⟨aggO_other h.one _ (by omega), aggO_obj h.two hf h1, aggO_below h.blw (by omega) _ _, h.lt⟩
theorem Bo2.set {w W : World} {m : Nat} {c : Array Value} {T U : TypeId} {L : List Value} (h : Bo2 w W m c T L U) (j : Nat) (v : Value) : Bo2 w (W.setCell ⟨m, j, none⟩ v) m c T (L.set j v) U := by
  have hlt := h.lt
  refine ⟨h.one.other _ _ (by simp; omega), ?_, h.blw.setCell (p := ⟨m, j, none⟩) (by simp; omega) v, h.lt⟩
  have := h.two.set j v
  rwa [List.setIfInBounds_toArray] at this
theorem Bo2.drew {w W : World} {m : Nat} {c : Array Value} {T U : TypeId} {L : List Value} (h : Bo2 w W m c T L U) : Bo2 w W.drew m c T L U := ⟨h.one, h.two, (bdrewN h.blw 1 :), h.lt⟩
theorem Bo2.drewN {w W : World} {m : Nat} {c : Array Value} {T U : TypeId} {L : List Value} (h : Bo2 w W m c T L U) (n : Nat) : Bo2 w (W.drewN n) m c T L U := ⟨h.one, h.two, bdrewN h.blw n, h.lt⟩

end Go.Proofs.Ytacnhelnpngkgaa

