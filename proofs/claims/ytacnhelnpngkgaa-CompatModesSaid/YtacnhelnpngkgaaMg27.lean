/-
  Texts joined: MdY, TlD, MkD, PureIp6, IqP, EthA, EthB, EthC, OctRd.
-/
import Derived.Test.YtacnhelnpngkgaaMg24
import Derived.Test.YtacnhelnpngkgaaMdJ
import Derived.Deep.RegionHeld3
import Derived.Deep.Cut
import Derived.BigQuiet
import Derived.Test.YtacnhelnpngkgaaMg20
import Derived.Test.YtacnhelnpngkgaaMg13
import Derived.Test.YtacnhelnpngkgaaEth
import Derived.Test.YtacnhelnpngkgaaMg07
import Derived.WalkLawsBesides
import Derived.Test.YtacnhelnpngkgaaMg01
/-
  The document's own Write of layer 9: a report of version 2, and any good talk.
-/
namespace Go.Proofs.Ytacnhelnpngkgaa
open Go.RowKit
set_option linter.unusedVariables false
set_option linter.unusedSimpArgs false
attribute [local go_sem ↓] ld_addr st_addr bld_addr ld_rec st_rec
attribute [local go_sem] ldr_addr str_addr ldr_rec str_rec


end Go.Proofs.Ytacnhelnpngkgaa

/-
  Talks made later, and what a reader of talks tells.
-/
namespace Go.Proofs.Ytacnhelnpngkgaa
open Go.RowKit
set_option linter.unusedVariables false
set_option linter.unusedSimpArgs false
/-- What a reader tells. -/
def ReadQ (w : World) (s : List UInt8) (x : Ending) (w' : World) : Prop := ∃ us ur, x = .returned (.tuple #[.agg (tkC (readT s).1 us ur).toArray, .int .i64 (readT s).2]) ∧ Below w.heap.size w w' ∧ adOk (readT s).1.g ∧ Ads w' us (readT s).1.src ∧ Rcs w' ur (readT s).1.rcs
theorem ReadP.q {w w' : World} {s : List UInt8} {x : Ending} (h : ReadP w s x w') : ReadQ w s x w' := by
  obtain ⟨us, ur, h1, h2, h3, h4, h5⟩ := h
  exact ⟨us, ur, h1, h2, h3, h4.1, h5.rcs⟩
theorem Rcs.ok {w : World} {v : Value} {l : List RC} (h : Rcs w v l) : ∀ r ∈ l, adOk r.g ∧ ∀ a ∈ r.src, adOk a := by
  intro r hr
  obtain ⟨i, hi, rfl⟩ := List.mem_iff_getElem.1 hr
  obtain ⟨b, o, cap, _, _, _, h3⟩ := h.parts (fun e => by rw [e] at hi; exact absurd hi (by simp))
  obtain ⟨h4, _, u, _, h6⟩ := h3 i hi
  exact ⟨h4, h6.ok⟩
theorem Tks.ok {w : World} {cs : List Value} {t : TK} (h : Tks w cs t) : t.ok := by
  obtain ⟨h1, us, ur, h2, h3, h4⟩ := h
  exact ⟨h1, h3.ok, h4.ok⟩
/-- A talk in a block of its own, made later. -/
structure TM (w W : World) (m : Nat) (t : TK) (us ur : Value) : Prop where
  tk : TkAt W m t us ur
  src : Ads W us t.src
  rcs : Rcs W ur t.rcs
  blw : Below w.heap.size w W
  lt : w.heap.size ≤ m
theorem TM.below {w W W' : World} {m : Nat} {t : TK} {us ur : Value} (h : TM w W m t us ur) (hb : Below W.heap.size W W') : TM w W' m t us ur :=
  ⟨h.tk.below hb, h.src.below hb, h.rcs.below hb, bstep h.blw hb, h.lt⟩
theorem TM.tks {w W : World} {m : Nat} {t : TK} {us ur : Value} (h : TM w W m t us ur) : Tks W (tkC t us ur) t := ⟨h.tk.2, us, ur, rfl, h.src, h.rcs⟩
theorem TM.ok {w W : World} {m : Nat} {t : TK} {us ur : Value} (h : TM w W m t us ur) : t.ok := h.tks.ok
theorem TM.fok {W : World} {t : TK} {us ur : Value} (ho : adOk t.g) (hs : Ads W us t.src) (hr : Rcs W ur t.rcs) : fok (tkC t us ur).toArray 26 = true := fok_tk ho hs.one hr.one
/-- A new block, and the talk stored there. -/
theorem TM.made {w W : World} {t : TK} {us ur : Value} (hb : Below w.heap.size w W) (ho : adOk t.g) (hs : Ads W us t.src) (hr : Rcs W ur t.rcs) : TM w (aggW (W.alloc (.cells #[.bool false, .int .i64 0, .int .i64 0, .int .i64 0, .bool false, .int .u8 0, .int .u8 0, .int .u8 0, .int .u8 0, .int .u8 0, .int .u8 0, .int .u8 0, .int .u8 0, .int .u8 0, .int .u8 0, .int .u8 0, .int .u8 0, .int .u8 0, .int .u8 0, .int .u8 0, .int .u8 0, .bool false, .int .i64 0, .int .i64 0, .slice none 0 0, .slice none 0 0] 28)) W.heap.size (tkC t us ur)) W.heap.size t us ur := by
  have hk : Below W.heap.size W (aggW (W.alloc (.cells #[.bool false, .int .i64 0, .int .i64 0, .int .i64 0, .bool false, .int .u8 0, .int .u8 0, .int .u8 0, .int .u8 0, .int .u8 0, .int .u8 0, .int .u8 0, .int .u8 0, .int .u8 0, .int .u8 0, .int .u8 0, .int .u8 0, .int .u8 0, .int .u8 0, .int .u8 0, .int .u8 0, .bool false, .int .i64 0, .int .i64 0, .slice none 0 0, .slice none 0 0] 28)) W.heap.size (tkC t us ur)) := aggW_below ((Below.refl _ _).alloc (Nat.le_refl _) _) (Nat.le_refl _) _
  have hm := ObjAt.made W #[.bool false, .int .i64 0, .int .i64 0, .int .i64 0, .bool false, .int .u8 0, .int .u8 0, .int .u8 0, .int .u8 0, .int .u8 0, .int .u8 0, .int .u8 0, .int .u8 0, .int .u8 0, .int .u8 0, .int .u8 0, .int .u8 0, .int .u8 0, .int .u8 0, .int .u8 0, .int .u8 0, .bool false, .int .i64 0, .int .i64 0, .slice none 0 0, .slice none 0 0] 28
  exact ⟨⟨aggW_obj (L := (#[.bool false, .int .i64 0, .int .i64 0, .int .i64 0, .bool false, .int .u8 0, .int .u8 0, .int .u8 0, .int .u8 0, .int .u8 0, .int .u8 0, .int .u8 0, .int .u8 0, .int .u8 0, .int .u8 0, .int .u8 0, .int .u8 0, .int .u8 0, .int .u8 0, .int .u8 0, .int .u8 0, .bool false, .int .i64 0, .int .i64 0, .slice none 0 0, .slice none 0 0] : Array Value).toList) (by simpa using hm) (by rw [tkC_length ho]; rfl) (tkC_one hs.one hr.one), ho⟩, hs.below hk, hr.below hk, bstep hb hk, hb.size⟩
end Go.Proofs.Ytacnhelnpngkgaa

/-
  What the contracts of package mld say.
-/
namespace Go.Proofs.Ytacnhelnpngkgaa
open Go.RowKit
set_option linter.unusedVariables false

end Go.Proofs.Ytacnhelnpngkgaa

/-
  Packets of IPv6 as plain data: options, what is wrong of bytes, their parts. Nothing of the program.
-/
namespace Go.Proofs.Ytacnhelnpngkgaa
open Go.RowKit
set_option linter.unusedVariables false

/-- What was announced. -/
def bd6 (s : List UInt8) : List UInt8 := (s.drop 40).take (wd s 4)
/-- The size of the options that begin it. -/
def hb6 (s : List UInt8) : Nat := 8 * by8 (bd6 s) 1 + 8
end Go.Proofs.Ytacnhelnpngkgaa

/-
  What bytes are as a packet of IPv6: plain facts. What is read of a packet's own bytes.
-/
namespace Go.Proofs.Ytacnhelnpngkgaa
open Go.RowKit
set_option linter.unusedVariables false

/-- A packet's bytes. -/
def Ip.h6 (p : Ip) : List UInt8 := putL (96 + p.tos.toNat / 16) 1 ++ (putL (p.tos.toNat % 16 * 16 + p.id.toNat / 65536) 1 ++ putL (p.id.toNat % 65536) 2)
end Go.Proofs.Ytacnhelnpngkgaa

/-
  Contracts of ether's small functions on one frame, and of the document's own Good.
-/
namespace Go.Proofs.Ytacnhelnpngkgaa
open Go.RowKit
set_option linter.unusedVariables false



end Go.Proofs.Ytacnhelnpngkgaa

/-
  Contracts of ether's Good, Size, tag and Write.
-/
namespace Go.Proofs.Ytacnhelnpngkgaa
open Go.RowKit
set_option linter.unusedVariables false



end Go.Proofs.Ytacnhelnpngkgaa

/-
  The contract of ether.Write.
-/
namespace Go.Proofs.Ytacnhelnpngkgaa
open Go.RowKit
set_option linter.unusedVariables false



def Eth.wr (e : Eth) : List UInt8 × Int := if e.good then (e.wrt, 0) else ([], 2)
end Go.Proofs.Ytacnhelnpngkgaa

/-
  The contracts of octet's Reader, and of the document's own.
-/
namespace Go.Proofs.Ytacnhelnpngkgaa
open Go.RowKit
set_option linter.unusedVariables false

end Go.Proofs.Ytacnhelnpngkgaa

