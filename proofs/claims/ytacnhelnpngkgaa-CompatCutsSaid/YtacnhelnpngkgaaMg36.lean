/-
  Texts joined: Iq, FrA, IpD, IpE, IpF, IqE, IqF, IqG, MgA, MgQ, MgR, IgA.
-/
import Derived.Test.YtacnhelnpngkgaaIp
import Derived.Test.YtacnhelnpngkgaaFr
import Derived.Test.YtacnhelnpngkgaaMg09
import Derived.Test.YtacnhelnpngkgaaMg07
import Derived.Test.YtacnhelnpngkgaaMg20
import Derived.Test.YtacnhelnpngkgaaMg27
import Derived.Test.YtacnhelnpngkgaaMg13
import Derived.Test.YtacnhelnpngkgaaTkJ
import Derived.Test.YtacnhelnpngkgaaPureMd
import Derived.Test.YtacnhelnpngkgaaMdJ
import Derived.Test.YtacnhelnpngkgaaMg22
/-
  A packet of IPv6 in memory, and how it is loaded and stored whole.
-/
namespace Go.Proofs.Ytacnhelnpngkgaa
open Go.RowKit
set_option linter.unusedVariables false

end Go.Proofs.Ytacnhelnpngkgaa

/-
  The contracts of frame's small functions.
-/
namespace Go.Proofs.Ytacnhelnpngkgaa
open Go.RowKit
set_option linter.unusedVariables false
set_option linter.unusedSimpArgs false
attribute [local go_sem ↓] ld_addr st_addr bld_addr ld_tk st_tk bld_tk bld_b16
attribute [local go_sem] ldr_addr str_addr str_addr_at ldr_tk str_tk row?_drewN_eq row?_drew_eq


end Go.Proofs.Ytacnhelnpngkgaa

/-
  The contract of ip4.Good.
-/
namespace Go.Proofs.Ytacnhelnpngkgaa
open Go.RowKit
set_option linter.unusedVariables false
attribute [local go_sem ↓] ld_addr st_addr
attribute [local go_sem] ldr_addr str_addr

end Go.Proofs.Ytacnhelnpngkgaa

/-
  The contracts of ip4.Size and ip4.Write.
-/
namespace Go.Proofs.Ytacnhelnpngkgaa
open Go.RowKit
set_option linter.unusedVariables false
attribute [local go_sem ↓] ld_addr st_addr
attribute [local go_sem] ldr_addr str_addr

end Go.Proofs.Ytacnhelnpngkgaa

/-
  The contract of ip4.Write of a good packet.
-/
namespace Go.Proofs.Ytacnhelnpngkgaa
open Go.RowKit
set_option linter.unusedVariables false
attribute [local go_sem ↓] ld_addr st_addr
attribute [local go_sem] ldr_addr str_addr

/-- TwoF bytes in a block of their own. -/
def TwoF (W : World) (b : Nat) (x y : Int) : Prop := ObjAt W b #[.int .u8 x, .int .u8 y] 5
theorem TwoF.below {W W' : World} {b : Nat} {x y : Int} (h : TwoF W b x y) (hb : Below W.heap.size W W') : TwoF W' b x y := ObjAt.below h hb (ObjAt.lt h)
theorem TwoF.made (W : World) (x y : Int) : TwoF (W.alloc (.cells #[.int .u8 x, .int .u8 y] 5)).drew W.heap.size x y := ObjAt.drew (ObjAt.made W _ _)

end Go.Proofs.Ytacnhelnpngkgaa

/-
  The contracts of ip6: within, put, options, Good, Size, Write.
-/
namespace Go.Proofs.Ytacnhelnpngkgaa
open Go.RowKit
set_option linter.unusedVariables false
attribute [local go_sem ↓] ld_addr st_addr
attribute [local go_sem] ldr_addr str_addr

end Go.Proofs.Ytacnhelnpngkgaa

/-
  The contract of ip6.Write of a good packet.
-/
namespace Go.Proofs.Ytacnhelnpngkgaa
open Go.RowKit
set_option linter.unusedVariables false
attribute [local go_sem ↓] ld_addr st_addr
attribute [local go_sem] ldr_addr str_addr

end Go.Proofs.Ytacnhelnpngkgaa

/-
  What a reader gives, in plain words; an address that a reader passes.
-/
namespace Go.Proofs.Ytacnhelnpngkgaa
open Go.RowKit
set_option linter.unusedVariables false
attribute [local go_sem ↓] ld_addr st_addr
attribute [local go_sem] ldr_addr str_addr

end Go.Proofs.Ytacnhelnpngkgaa

/-
  The contracts of mld's within, zero, goodGroup, goodTarget, six (with slices.ContainsFunc and its predicate), goodSources, goodRecord, goodRecords.
-/
namespace Go.Proofs.Ytacnhelnpngkgaa
open Go.RowKit
set_option linter.unusedVariables false
set_option linter.unusedSimpArgs false
attribute [local go_sem ↓] ld_addr st_addr bld_addr ld_rec st_rec
attribute [local go_sem] ldr_addr str_addr ldr_rec str_rec

/-- A record boxed, and what is read of it. -/
def RBm (w W : World) (r : RC) (u : Value) : Prop := RcU W w.heap.size 0 r u ∧ Below w.heap.size w W
theorem RBm.below {w W W' : World} {r : RC} {u : Value} (h : RBm w W r u) (hb : Below W.heap.size W W') : RBm w W' r u := ⟨h.1.below hb, bstep h.2 hb⟩
theorem RBm.made (w : World) (r : RC) (u : Value) (ho : adOk r.g) (ha : Ads w u r.src) : RBm w (w.alloc (.cells (rcC r u).toArray 40)) r u := by
  have hb : Below w.heap.size w (w.alloc (.cells (rcC r u).toArray 40)) := (Below.refl _ _).alloc (Nat.le_refl _) _
  refine ⟨⟨ho, by simp, ?_, ha.below hb⟩, hb⟩
  exact obj_rowk (A := []) (M := rcC r u) (C := []) (by simpa using ObjAt.made w (rcC r u).toArray 40) rfl (rcC_length ho u)
end Go.Proofs.Ytacnhelnpngkgaa

/-
  The contracts of mld's num, address, end and sources.
-/
namespace Go.Proofs.Ytacnhelnpngkgaa
open Go.RowKit
set_option linter.unusedVariables false
set_option linter.unusedSimpArgs false
attribute [local go_sem ↓] ld_addr st_addr bld_addr adsLit_eq
attribute [local go_sem] ldr_addr str_addr row?_drew_eq

theorem own_keep9 {w w' : World} {base n size : Nat} {v : Value} {xs : List Value} {T : TypeId} (h : w.ownsRow base T size v n xs) (hk : ∀ g, v.ownBlock = some g → w'.heap[g]? = w.heap[g]?) : w'.ownsRow base T size v n xs := by
  obtain ⟨h1, h2 | ⟨g, cap, cur, e1, e2, e3, e4⟩⟩ := h
  · exact ⟨h1, .inl h2⟩
  · exact ⟨h1, .inr ⟨g, cap, cur, e1, e2, (hk g (by rw [e1]; rfl)).trans e3, e4⟩⟩
theorem row_ne9 {w : World} {base m n size : Nat} {v : Value} {xs : List Value} {L : Array Value} {T T' : TypeId} (h : w.ownsRow base T size v n xs) (hm : ObjAt w m L T') (hT : T ≠ T') : some m ≠ v.ownBlock := by
  obtain ⟨_, h2 | ⟨g, cap, cur, rfl, _, hg, _⟩⟩ := h
  · rw [h2.1]; simp [Value.ownBlock]
  · intro e
    simp only [Value.ownBlock, Option.some.injEq] at e
    subst e
    unfold ObjAt at hm
    rw [hg] at hm
    simp only [Option.some.injEq, Obj.cells.injEq] at hm
    exact hT hm.2.1
end Go.Proofs.Ytacnhelnpngkgaa

/-
  The contract of mld's record.
-/
namespace Go.Proofs.Ytacnhelnpngkgaa
open Go.RowKit
set_option linter.unusedVariables false
set_option linter.unusedSimpArgs false
attribute [local go_sem ↓] ld_addr st_addr bld_addr ld_rec st_rec bld_rec
attribute [local go_sem] ldr_addr str_addr str_addr_at ldr_rec str_rec row?_drew_eq

/-- Stores and calls elsewhere leave addresses alone. -/
theorem AdsT.far9 {w w' : World} {v : Value} {l : List AD} {m : Nat} {L : Array Value} {T : TypeId} (h : AdsT w v l) (hm : ObjAt w m L T) (hT : T ≠ 24) (hg : w.grownBy w' (some m)) : AdsT w' v l := by
  have hf : ∀ b o n c, v = .slice (some ⟨b, o, none⟩) n c → some b ≠ some m := fun b o n c e => by
    obtain ⟨h1, cur, fz, h2⟩ := h.2 b o n c e
    intro hb
    simp only [Option.some.injEq] at hb
    subst hb
    unfold ObjAt at hm
    rw [h2] at hm
    simp only [Option.some.injEq, Obj.cells.injEq] at hm
    exact hT hm.2.1.symm
  exact ⟨h.1.grown hg hf, h.2.grown hg hf⟩
/-- What record's errors are. -/
def recQE9 (s : List UInt8) (i : Nat) : Int := if s.length < i + 20 then 3 else if srcsE9 s (i + 20) (wd s (i + 2)) ≠ 0 then srcsE9 s (i + 20) (wd s (i + 2)) else if s.length < recN9 s i then 3 else 0
end Go.Proofs.Ytacnhelnpngkgaa

/-
  The contracts of igmp's within, zero, goodGroup, goodTarget, goodSources (with slices.ContainsFunc and its predicate), goodRecord, goodRecords.
-/
namespace Go.Proofs.Ytacnhelnpngkgaa
open Go.RowKit
set_option linter.unusedVariables false
set_option linter.unusedSimpArgs false
attribute [local go_sem ↓] ld_addr st_addr bld_addr ld_rec st_rec
attribute [local go_sem] ldr_addr str_addr ldr_rec str_rec

/-- A record boxed, and what is read of it. -/
def RB8 (w W : World) (r : RC) (u : Value) : Prop := RcU W w.heap.size 0 r u ∧ Below w.heap.size w W
theorem RB8.below {w W W' : World} {r : RC} {u : Value} (h : RB8 w W r u) (hb : Below W.heap.size W W') : RB8 w W' r u := ⟨h.1.below hb, bstep h.2 hb⟩
theorem RB8.made (w : World) (r : RC) (u : Value) (ho : adOk r.g) (ha : Ads w u r.src) : RB8 w (w.alloc (.cells (rcC r u).toArray 40)) r u := by
  have hb : Below w.heap.size w (w.alloc (.cells (rcC r u).toArray 40)) := (Below.refl _ _).alloc (Nat.le_refl _) _
  refine ⟨⟨ho, by simp, ?_, ha.below hb⟩, hb⟩
  exact obj_rowk (A := []) (M := rcC r u) (C := []) (by simpa using ObjAt.made w (rcC r u).toArray 40) rfl (rcC_length ho u)
end Go.Proofs.Ytacnhelnpngkgaa

