/-
  Texts joined: Pure1, OctBits, PureSum, Sum, Refb, IpA, IpW, PureEth, PureIp, IpP, PureTk.
-/
import Derived.Test.YtacnhelnpngkgaaMg00
import Derived.Test.YtacnhelnpngkgaaMg07
import Derived.Test.YtacnhelnpngkgaaMg09
import Derived.Lib.SmallJoins
import Derived.Test.YtacnhelnpngkgaaIp
import Derived.Test.YtacnhelnpngkgaaTell
import Derived.Deep.RegionHeld3
import Derived.Deep.Cut
import Derived.Test.YtacnhelnpngkgaaMg11
/-
  Plain lemmas on numbers and their bytes; nothing of the program.
-/
namespace Go.Proofs.Ytacnhelnpngkgaa
open Go.RowKit
set_option linter.unusedVariables false

end Go.Proofs.Ytacnhelnpngkgaa

/-
  The contracts of octet.Bits and octet.Set, and of the document's answer Set.
-/
namespace Go.Proofs.Ytacnhelnpngkgaa
open Go.RowKit
set_option linter.unusedVariables false

end Go.Proofs.Ytacnhelnpngkgaa

/-
  Plain lemmas on Internet checksums; nothing of the program.
-/
namespace Go.Proofs.Ytacnhelnpngkgaa
open Go.RowKit
set_option linter.unusedVariables false

/-- A number's words added up, carries and all. -/
def foldN (n : Nat) : Nat := if n = 0 then 0 else (n - 1) % 65535 + 1
/-- What is summed so far, and how far the next byte is shifted. -/
def wstep (p : Nat × Nat) (b : UInt8) : Nat × Nat := (p.1 + b.toNat * 2 ^ p.2, 8 - p.2)
def wst (l : List UInt8) : Nat × Nat := l.foldl wstep (0, 8)
/-- The words of a text added up. -/
def wsum (l : List UInt8) : Nat := (wst l).1
end Go.Proofs.Ytacnhelnpngkgaa

/-
  The contracts of package sum: Fold, Sum, Check, Good, Update.
-/
namespace Go.Proofs.Ytacnhelnpngkgaa
open Go.RowKit
set_option linter.unusedVariables false

end Go.Proofs.Ytacnhelnpngkgaa

/-
  The contracts of the document's own answers of layer 2, and of the statements' helpers there.
-/
namespace Go.Proofs.Ytacnhelnpngkgaa
open Go.RowKit
set_option linter.unusedVariables false

end Go.Proofs.Ytacnhelnpngkgaa

/-
  The document's own Good of a packet of IPv4, its numbers as bytes, and its bytes.
-/
namespace Go.Proofs.Ytacnhelnpngkgaa
open Go.RowKit
set_option linter.unusedVariables false
attribute [local go_sem ↓] ld_addr st_addr
attribute [local go_sem] ldr_addr str_addr

def Ip.nums (p : Ip) : Bool := decide (0 ≤ p.tos ∧ p.tos ≤ 255 ∧ 0 ≤ p.ttl ∧ p.ttl ≤ 255 ∧ 0 ≤ p.pro ∧ p.pro ≤ 255 ∧ 0 ≤ p.id ∧ p.id ≤ 65535)
def Ip.good (p : Ip) : Bool := p.nums && (!p.f6 && (!p.t6 && (goodV p.f6 p.fr && (goodV p.t6 p.to && decide (p.bd.length ≤ 1400)))))

end Go.Proofs.Ytacnhelnpngkgaa

/-
  The document's own bytes of a packet of IPv4.
-/
namespace Go.Proofs.Ytacnhelnpngkgaa
open Go.RowKit
set_option linter.unusedVariables false
attribute [local go_sem ↓] ld_addr st_addr
attribute [local go_sem] ldr_addr str_addr

def optL (al : Bool) : List UInt8 := if al then [148, 4, 0, 0] else []
/-- The header ahead of its check, and behind it. -/
def Ip.ha (p : Ip) : List UInt8 := putL (69 + (optL p.al).length / 4) 1 ++ (putL p.tos.toNat 1 ++ (putL (20 + (optL p.al).length + p.bd.length) 2 ++ (putL p.id.toNat 2 ++ (putL 0 2 ++ (putL p.ttl.toNat 1 ++ putL p.pro.toNat 1)))))
def Ip.hb (p : Ip) : List UInt8 := p.fr.take 4 ++ (p.to.take 4 ++ optL p.al)
def Ip.chk (p : Ip) : Nat := 65535 - foldN (wsum (p.ha ++ p.hb))
def Ip.wrt (p : Ip) : List UInt8 := p.ha ++ (putL p.chk 2 ++ (p.hb ++ p.bd))
end Go.Proofs.Ytacnhelnpngkgaa

/-
  Frames of Ethernet as plain data: their bytes, which are good, what bytes are. Nothing of the program.
-/
namespace Go.Proofs.Ytacnhelnpngkgaa
open Go.RowKit
set_option linter.unusedVariables false

def goodTyV (k : Int) : Bool := decide (1536 ≤ k ∧ k ≤ 65535 ∧ k ≠ 33024)
def goodTgV (tg : Bool) (v p : Int) : Bool := if tg then decide (0 ≤ v ∧ v ≤ 4094 ∧ 0 ≤ p ∧ p ≤ 7) else decide (v = 0 ∧ p = 0)
def goodEV (tg : Bool) (v p k : Int) (n : Nat) : Bool := goodTyV k && (goodTgV tg v p && decide (n ≤ 1500))
/-- The tag's bytes. -/
def tagL (tg : Bool) (v p : Int) : List UInt8 := if tg then 129 :: 0 :: putL (8192 * p + v).toNat 2 else []
/-- A frame's bytes. -/
def wrtL (t f : List UInt8) (tg : Bool) (v p k : Int) (b : List UInt8) : List UInt8 := t ++ (f ++ (tagL tg v p ++ (putL k.toNat 2 ++ b)))
end Go.Proofs.Ytacnhelnpngkgaa

/-
  Packets of IPv4 as plain data: options, what is wrong of bytes, their parts, one hop further. Nothing of the program.
-/
namespace Go.Proofs.Ytacnhelnpngkgaa
open Go.RowKit
set_option linter.unusedVariables false

/-- A byte, and a word. -/
def by8 (s : List UInt8) (i : Nat) : Nat := (s.getD i 0).toNat
def wd (s : List UInt8) (i : Nat) : Nat := num ((s.drop i).take 2)
end Go.Proofs.Ytacnhelnpngkgaa

/-
  What bytes are as a packet: plain facts. What is read of a packet's own bytes; what is read of bytes one hop further.
-/
namespace Go.Proofs.Ytacnhelnpngkgaa
open Go.RowKit
set_option linter.unusedVariables false

end Go.Proofs.Ytacnhelnpngkgaa

/-
  Talks of IGMP as bytes, plain: what bytes say, a talk's bytes, and that it comes back from them.
-/
namespace Go.Proofs.Ytacnhelnpngkgaa
open Go.RowKit
set_option linter.unusedVariables false

def zeroA : AD := (false, List.replicate 16 0)
def zeroT : TK := ⟨false, 0, 0, 0, zeroA, false, 0, 0, [], []⟩
def fourL (s : List UInt8) (i : Nat) : AD := (false, readV ((s.drop i).take 4))
def srcsL (s : List UInt8) (i n : Nat) : List AD := (List.range n).map fun k => fourL s (i + 4 * k)
def srcsE (s : List UInt8) (i n : Nat) : Int := if 64 < n then 6 else if s.length < i + 4 * n then 3 else 0
def rec1 (s : List UInt8) (i : Nat) : RC := ⟨by8 s i, fourL s (i + 4), srcsL s (i + 8) (wd s (i + 2))⟩
def recN (s : List UInt8) (i : Nat) : Nat := i + 8 + 4 * wd s (i + 2) + 4 * by8 s (i + 1)
def rcOk (r : RC) : Bool := decide (1 ≤ r.kind ∧ r.kind ≤ 6) && grp8 r.g
def recL (s : List UInt8) : Nat → Nat → List RC × Int
  | _, 0 => ([], 0)
  | i, n + 1 =>
    if s.length < i + 8 then ([], 3)
    else if srcsE s (i + 8) (wd s (i + 2)) ≠ 0 then ([], srcsE s (i + 8) (wd s (i + 2)))
    else if s.length < recN s i then ([], 3)
    else if (recL s (recN s i) n).2 ≠ 0 then ([], (recL s (recN s i) n).2)
    else (if rcOk (rec1 s i) then rec1 s i :: (recL s (recN s i) n).1 else (recL s (recN s i) n).1, 0)
def qry (s : List UInt8) : TK × Int :=
  if 8 < s.length ∧ s.length < 12 then (zeroT, 2)
  else if fourL s 4 ≠ zeroA ∧ grp8 (fourL s 4) = false then (zeroT, 2)
  else if s.length = 8 then
    if by8 s 1 = 0 then if fourL s 4 ≠ zeroA then (zeroT, 2) else (⟨false, 1, 1, 0, fourL s 4, false, 0, 0, [], []⟩, 0)
    else (⟨false, 2, 1, by8 s 1, fourL s 4, false, 0, 0, [], []⟩, 0)
  else if fourL s 4 = zeroA ∧ 0 < wd s 10 then (zeroT, 2)
  else if srcsE s 12 (wd s 10) ≠ 0 then (zeroT, srcsE s 12 (wd s 10))
  else (⟨false, 3, 1, valN (by8 s 1) 16, fourL s 4, decide (by8 s 8 / 8 % 2 = 1), (by8 s 8 % 8 : Nat), valN (by8 s 9) 16, srcsL s 12 (wd s 10), []⟩, 0)
def readT (s : List UInt8) : TK × Int :=
  if s.length < 8 then (zeroT, 3)
  else if foldN (wsum s) ≠ 65535 then (zeroT, 4)
  else if by8 s 0 = 17 then qry s
  else if by8 s 0 = 34 then
    if 64 < wd s 6 then (zeroT, 6)
    else if (recL s 8 (wd s 6)).2 ≠ 0 then (zeroT, (recL s 8 (wd s 6)).2)
    else (⟨false, 3, 2, 0, zeroA, false, 0, 0, [], (recL s 8 (wd s 6)).1⟩, 0)
  else if by8 s 0 = 18 ∨ by8 s 0 = 22 ∨ by8 s 0 = 23 then
    if grp8 (fourL s 4) = false then (zeroT, 2)
    else (⟨false, if by8 s 0 = 18 then 1 else 2, if by8 s 0 = 23 then 3 else 2, 0, fourL s 4, false, 0, 0, [], []⟩, 0)
  else (zeroT, 5)

/-- Whether a talk is good. -/
def sizeR (l : List RC) : Nat := (l.map fun r => 8 + 4 * r.src.length).sum + 8
def recOk (r : RC) : Bool := rcOk r && srcs8 r.src
def good8 (t : TK) : Bool :=
  if t.v6 = true ∨ t.ver < 1 ∨ 3 < t.ver ∨ t.kind < 1 ∨ 3 < t.kind then false
  else if ¬ (t.ver = 3 ∧ t.kind = 1) ∧ (t.quiet = true ∨ t.rob ≠ 0 ∨ t.every ≠ 0 ∨ 0 < t.src.length) then false
  else if (t.kind ≠ 1 ∧ t.resp ≠ 0) ∨ (0 < t.rcs.length ∧ (t.ver < 3 ∨ t.kind ≠ 2)) then false
  else if t.kind = 3 then decide (t.ver = 2) && grp8 t.g
  else if t.kind = 2 ∧ t.ver < 3 then grp8 t.g
  else if t.kind = 2 then t.rcs.all recOk && (decide (t.g = zeroA) && (decide (t.rcs.length < 65) && decide (sizeR t.rcs < 1401)))
  else if t.ver = 1 then decide (t.resp = 0) && decide (t.g = zeroA)
  else if t.g ≠ zeroA ∧ grp8 t.g = false then false
  else if t.ver = 2 then decide (0 < t.resp ∧ t.resp < 256)
  else exactN t.resp 16 255 && (exactN t.every 16 255 && (decide (0 ≤ t.rob ∧ t.rob < 8) && (srcs8 t.src && (decide (t.g ≠ zeroA) || decide (t.src.length = 0)))))

def TK.ok (t : TK) : Prop := adOk t.g ∧ (∀ a ∈ t.src, adOk a) ∧ ∀ r ∈ t.rcs, adOk r.g ∧ ∀ a ∈ r.src, adOk a
theorem zeroA_ok : adOk zeroA := rfl
end Go.Proofs.Ytacnhelnpngkgaa

