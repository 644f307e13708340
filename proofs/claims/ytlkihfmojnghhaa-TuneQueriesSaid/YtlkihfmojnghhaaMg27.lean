/-
  Texts joined: MdY, TlD, MkD, PureIp6, IqP, EthA, EthB, EthC, OctRd, EthD, EthE, EthF, EthG, Mac, Mac6, PureFr.
-/
import Derived.Test.YtlkihfmojnghhaaMg24
import Derived.Test.YtlkihfmojnghhaaMdJ
import Derived.Deep.RegionHeld3
import Derived.Deep.Cut
import Derived.BigQuiet
import Derived.Test.YtlkihfmojnghhaaMg20
import Derived.Test.YtlkihfmojnghhaaMg13
import Derived.Test.YtlkihfmojnghhaaEth
import Derived.Test.YtlkihfmojnghhaaMg07
import Derived.WalkLawsBesides
import Derived.Test.YtlkihfmojnghhaaMg01
import Derived.Lib.LazyBuf
import Derived.Deep.RegionLaw
import Derived.Laws.CopyOwn
import Derived.Test.YtlkihfmojnghhaaAgg
import Derived.Test.YtlkihfmojnghhaaTell
/-
  The document's own Write of layer 9: a report of version 2, and any good talk.
-/
namespace Go.Proofs.Ytlkihfmojnghhaa
open Go.RowKit
set_option linter.unusedVariables false
set_option linter.unusedSimpArgs false
attribute [local go_sem ↓] ld_addr st_addr bld_addr ld_rec st_rec
attribute [local go_sem] ldr_addr str_addr ldr_rec str_rec


end Go.Proofs.Ytlkihfmojnghhaa

/-
  Talks made later, and what a reader of talks tells.
-/
namespace Go.Proofs.Ytlkihfmojnghhaa
open Go.RowKit
set_option linter.unusedVariables false
set_option linter.unusedSimpArgs false
/-- What a reader tells. -/
def ReadQ (w : World) (s : List UInt8) (x : Ending) (w' : World) : Prop := ∃ us ur, x = .returned (.tuple #[.agg (tkC (readT s).1 us ur).toArray, .int .i64 (readT s).2]) ∧ Below w.heap.size w w' ∧ adOk (readT s).1.g ∧ Ads w' us (readT s).1.src ∧ Rcs w' ur (readT s).1.rcs
theorem ReadP.q {w w' : World} {s : List UInt8} {x : Ending} (h : ReadP w s x w') : ReadQ w s x w' := by
  obtain ⟨us, ur, h1, h2, h3, h4, h5⟩ := h
  exact ⟨us, ur, h1, h2, h3, h4.1, h5.rcs⟩
theorem Rcs.ok {w : World} {v : Value} {l : List RC} (h : Rcs w v l) : ∀ r ∈ l, adOk r.g ∧ ∀ a ∈ r.src, adOk a := by
  intro r hr
  obtain ⟨i, hi, rfl⟩ := List.mem_iff_getElem.1 hr
  obtain ⟨b, o, cap, _, _, _, h3⟩ := h.parts (fun e => by rw [e] at hi; exact absurd hi (by simp))
  obtain ⟨h4, _, u, _, h6⟩ := h3 i hi
  exact ⟨h4, h6.ok⟩
theorem Tks.ok {w : World} {cs : List Value} {t : TK} (h : Tks w cs t) : t.ok := by
  obtain ⟨h1, us, ur, h2, h3, h4⟩ := h
  exact ⟨h1, h3.ok, h4.ok⟩
/-- A talk in a block of its own, made later. -/
structure TM (w W : World) (m : Nat) (t : TK) (us ur : Value) : Prop where
  tk : TkAt W m t us ur
  src : Ads W us t.src
  rcs : Rcs W ur t.rcs
  blw : Below w.heap.size w W
  lt : w.heap.size ≤ m
theorem TM.below {w W W' : World} {m : Nat} {t : TK} {us ur : Value} (h : TM w W m t us ur) (hb : Below W.heap.size W W') : TM w W' m t us ur :=
  ⟨h.tk.below hb, h.src.below hb, h.rcs.below hb, bstep h.blw hb, h.lt⟩
theorem TM.tks {w W : World} {m : Nat} {t : TK} {us ur : Value} (h : TM w W m t us ur) : Tks W (tkC t us ur) t := ⟨h.tk.2, us, ur, rfl, h.src, h.rcs⟩
theorem TM.ok {w W : World} {m : Nat} {t : TK} {us ur : Value} (h : TM w W m t us ur) : t.ok := h.tks.ok
theorem TM.fok {W : World} {t : TK} {us ur : Value} (ho : adOk t.g) (hs : Ads W us t.src) (hr : Rcs W ur t.rcs) : fok (tkC t us ur).toArray 26 = true := fok_tk ho hs.one hr.one
/-- A new block, and the talk stored there. -/
theorem TM.made {w W : World} {t : TK} {us ur : Value} (hb : Below w.heap.size w W) (ho : adOk t.g) (hs : Ads W us t.src) (hr : Rcs W ur t.rcs) : TM w (aggW (W.alloc (.cells #[.bool false, .int .i64 0, .int .i64 0, .int .i64 0, .bool false, .int .u8 0, .int .u8 0, .int .u8 0, .int .u8 0, .int .u8 0, .int .u8 0, .int .u8 0, .int .u8 0, .int .u8 0, .int .u8 0, .int .u8 0, .int .u8 0, .int .u8 0, .int .u8 0, .int .u8 0, .int .u8 0, .bool false, .int .i64 0, .int .i64 0, .slice none 0 0, .slice none 0 0] 35)) W.heap.size (tkC t us ur)) W.heap.size t us ur := by
  have hk : Below W.heap.size W (aggW (W.alloc (.cells #[.bool false, .int .i64 0, .int .i64 0, .int .i64 0, .bool false, .int .u8 0, .int .u8 0, .int .u8 0, .int .u8 0, .int .u8 0, .int .u8 0, .int .u8 0, .int .u8 0, .int .u8 0, .int .u8 0, .int .u8 0, .int .u8 0, .int .u8 0, .int .u8 0, .int .u8 0, .int .u8 0, .bool false, .int .i64 0, .int .i64 0, .slice none 0 0, .slice none 0 0] 35)) W.heap.size (tkC t us ur)) := aggW_below ((Below.refl _ _).alloc (Nat.le_refl _) _) (Nat.le_refl _) _
  have hm := ObjAt.made W #[.bool false, .int .i64 0, .int .i64 0, .int .i64 0, .bool false, .int .u8 0, .int .u8 0, .int .u8 0, .int .u8 0, .int .u8 0, .int .u8 0, .int .u8 0, .int .u8 0, .int .u8 0, .int .u8 0, .int .u8 0, .int .u8 0, .int .u8 0, .int .u8 0, .int .u8 0, .int .u8 0, .bool false, .int .i64 0, .int .i64 0, .slice none 0 0, .slice none 0 0] 35
  exact ⟨⟨aggW_obj (L := (#[.bool false, .int .i64 0, .int .i64 0, .int .i64 0, .bool false, .int .u8 0, .int .u8 0, .int .u8 0, .int .u8 0, .int .u8 0, .int .u8 0, .int .u8 0, .int .u8 0, .int .u8 0, .int .u8 0, .int .u8 0, .int .u8 0, .int .u8 0, .int .u8 0, .int .u8 0, .int .u8 0, .bool false, .int .i64 0, .int .i64 0, .slice none 0 0, .slice none 0 0] : Array Value).toList) (by simpa using hm) (by rw [tkC_length ho]; rfl) (tkC_one hs.one hr.one), ho⟩, hs.below hk, hr.below hk, bstep hb hk, hb.size⟩
end Go.Proofs.Ytlkihfmojnghhaa

/-
  What the contracts of package mld say.
-/
namespace Go.Proofs.Ytlkihfmojnghhaa
open Go.RowKit
set_option linter.unusedVariables false

end Go.Proofs.Ytlkihfmojnghhaa

/-
  Packets of IPv6 as plain data: options, what is wrong of bytes, their parts. Nothing of the program.
-/
namespace Go.Proofs.Ytlkihfmojnghhaa
open Go.RowKit
set_option linter.unusedVariables false

end Go.Proofs.Ytlkihfmojnghhaa

/-
  What bytes are as a packet of IPv6: plain facts. What is read of a packet's own bytes.
-/
namespace Go.Proofs.Ytlkihfmojnghhaa
open Go.RowKit
set_option linter.unusedVariables false

/-- A packet's bytes. -/
def Ip.h6 (p : Ip) : List UInt8 := putL (96 + p.tos.toNat / 16) 1 ++ (putL (p.tos.toNat % 16 * 16 + p.id.toNat / 65536) 1 ++ putL (p.id.toNat % 65536) 2)
end Go.Proofs.Ytlkihfmojnghhaa

/-
  Contracts of ether's small functions on one frame, and of the document's own Good.
-/
namespace Go.Proofs.Ytlkihfmojnghhaa
open Go.RowKit
set_option linter.unusedVariables false



end Go.Proofs.Ytlkihfmojnghhaa

/-
  Contracts of ether's Good, Size, tag and Write.
-/
namespace Go.Proofs.Ytlkihfmojnghhaa
open Go.RowKit
set_option linter.unusedVariables false



end Go.Proofs.Ytlkihfmojnghhaa

/-
  The contract of ether.Write.
-/
namespace Go.Proofs.Ytlkihfmojnghhaa
open Go.RowKit
set_option linter.unusedVariables false



def Eth.wr (e : Eth) : List UInt8 × Int := if e.good then (e.wrt, 0) else ([], 2)
end Go.Proofs.Ytlkihfmojnghhaa

/-
  The contracts of octet's Reader, and of the document's own.
-/
namespace Go.Proofs.Ytlkihfmojnghhaa
open Go.RowKit
set_option linter.unusedVariables false

end Go.Proofs.Ytlkihfmojnghhaa

/-
  The contract of ether.takeMac: an address of Ethernet that a reader passes.
-/
namespace Go.Proofs.Ytlkihfmojnghhaa
open Go.RowKit
set_option linter.unusedVariables false



end Go.Proofs.Ytlkihfmojnghhaa

/-
  The contract of ether.Read, in parts.
-/
namespace Go.Proofs.Ytlkihfmojnghhaa
open Go.RowKit
set_option linter.unusedVariables false



end Go.Proofs.Ytlkihfmojnghhaa

/-
  The contract of ether.Read of a frame with a tag.
-/
namespace Go.Proofs.Ytlkihfmojnghhaa
open Go.RowKit
set_option linter.unusedVariables false




end Go.Proofs.Ytlkihfmojnghhaa

/-
  The contract of ether.Read.
-/
namespace Go.Proofs.Ytlkihfmojnghhaa
open Go.RowKit
set_option linter.unusedVariables false

end Go.Proofs.Ytlkihfmojnghhaa

/-
  The contract of addr.Mac.
-/
namespace Go.Proofs.Ytlkihfmojnghhaa
open Go.RowKit
set_option linter.unusedVariables false
attribute [local go_sem ↓] ld_addr
attribute [local go_sem] ldr_addr

end Go.Proofs.Ytlkihfmojnghhaa

/-
  addr.Mac of a group of IPv6, and of any address.
-/
namespace Go.Proofs.Ytlkihfmojnghhaa
open Go.RowKit
set_option linter.unusedVariables false
attribute [local go_sem ↓] ld_addr
attribute [local go_sem] ldr_addr

end Go.Proofs.Ytlkihfmojnghhaa

/-
  What frames say, as plain data.
-/
namespace Go.Proofs.Ytlkihfmojnghhaa
open Go.RowKit
set_option linter.unusedVariables false
set_option linter.unusedSimpArgs false

structure SD where
  kind : Int
  vl : Int
  fr : AD
  tw : AD
  tk : TK
  pro : Int
  hop : Int
  da : List UInt8
  deriving DecidableEq
structure PK where
  fr : AD
  tw : AD
  pro : Int
  hop : Int
  al : Bool
  bd : List UInt8
def SD.ok (s : SD) : Prop := adOk s.fr ∧ adOk s.tw ∧ s.tk.ok
def PK.ok (p : PK) : Prop := adOk p.fr ∧ adOk p.tw
def gdT (t : TK) : Bool := good8 t || good9 t
theorem good8_v {t : TK} (h : good8 t = true) : t.v6 = false := by
  unfold good8 at h
  by_cases c : t.v6 = true
  · rw [if_pos (Or.inl c)] at h; cases h
  · simpa using c
theorem good9_v {t : TK} (h : good9 t = true) : t.v6 = true := (good9_cases t h).1
theorem gdT_v6 {t : TK} (h : gdT t = true) (hv : t.v6 = true) : good9 t = true ∧ good8 t = false := by
  unfold gdT at h
  cases h8 : good8 t with
  | true => rw [good8_v h8] at hv; cases hv
  | false => rw [h8] at h; exact ⟨by simpa using h, rfl⟩
theorem gdT_v4 {t : TK} (h : gdT t = true) (hv : t.v6 = false) : good8 t = true ∧ good9 t = false := by
  unfold gdT at h
  cases h9 : good9 t with
  | true => rw [good9_v h9] at hv; cases hv
  | false => rw [h9] at h; exact ⟨by simpa using h, rfl⟩
/-- The document's own. -/
def talkR (t : TK) : Bool := t.v6 && good9 t || !t.v6 && good8 t
theorem talkR_eq (t : TK) : talkR t = gdT t := by
  unfold talkR gdT
  cases hv : t.v6 with
  | true =>
    cases h8 : good8 t with
    | true => rw [good8_v h8] at hv; cases hv
    | false => simp
  | false =>
    cases h9 : good9 t with
    | true => rw [good9_v h9] at hv; cases hv
    | false => simp
end Go.Proofs.Ytlkihfmojnghhaa

