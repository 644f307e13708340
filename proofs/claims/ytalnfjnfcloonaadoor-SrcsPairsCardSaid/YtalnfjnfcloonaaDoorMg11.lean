/-
  Texts joined: Pure1, OctBits, PureSum, Sum, Refb, IpA, IpW, PureEth, PureIp, IpP, PureTk.
-/
import Derived.Test.YtalnfjnfcloonaaDoorMg00
import Derived.Test.YtalnfjnfcloonaaDoorMg05
import Derived.Test.YtalnfjnfcloonaaDoorMg08
import Derived.Lib.SmallJoins
import Derived.Test.YtalnfjnfcloonaaDoorOpen
import Derived.Test.YtalnfjnfcloonaaDoorIp
import Derived.Deep.RegionHeld3
import Derived.Deep.Cut
import Derived.Test.YtalnfjnfcloonaaDoorMg09
/-
  Plain lemmas on numbers and their bytes; nothing of the program.
-/
namespace Go.Proofs.YtalnfjnfcloonaaDoor
open Go.RowKit
set_option linter.unusedVariables false

theorem toNat_ofInt64 (a : Nat) (ha : a < 18446744073709551616) : (BitVec.ofInt 64 (a : Int)).toNat = a := by
  rw [BitVec.ofInt_natCast, BitVec.toNat_ofNat]; exact Nat.mod_eq_of_lt (by omega)
theorem bits_and_u64_nat (a b : Nat) (ha : a < 18446744073709551616) (hb : b < 18446744073709551616) :
    bits .and .u64 (a : Int) (b : Int) = ((a &&& b : Nat) : Int) := by
  have hx : a &&& b ≤ a := Nat.and_le_left
  show IntKind.u64.wrap ((BitVec.ofInt 64 (a : Int) &&& BitVec.ofInt 64 (b : Int)).toNat : Int) = _
  rw [BitVec.toNat_and, toNat_ofInt64 a ha, toNat_ofInt64 b hb, IntKind.wrap_u64]
  omega
end Go.Proofs.YtalnfjnfcloonaaDoor

/-
  The contracts of octet.Bits and octet.Set, and of the document's answer Set.
-/
namespace Go.Proofs.YtalnfjnfcloonaaDoor
open Go.RowKit
set_option linter.unusedVariables false

end Go.Proofs.YtalnfjnfcloonaaDoor

/-
  Plain lemmas on Internet checksums; nothing of the program.
-/
namespace Go.Proofs.YtalnfjnfcloonaaDoor
open Go.RowKit
set_option linter.unusedVariables false

end Go.Proofs.YtalnfjnfcloonaaDoor

/-
  The contracts of package sum: Fold, Sum, Check, Good, Update.
-/
namespace Go.Proofs.YtalnfjnfcloonaaDoor
open Go.RowKit
set_option linter.unusedVariables false

end Go.Proofs.YtalnfjnfcloonaaDoor

/-
  The contracts of the document's own answers of layer 2, and of the statements' helpers there.
-/
namespace Go.Proofs.YtalnfjnfcloonaaDoor
open Go.RowKit
set_option linter.unusedVariables false

end Go.Proofs.YtalnfjnfcloonaaDoor

/-
  The document's own Good of a packet of IPv4, its numbers as bytes, and its bytes.
-/
namespace Go.Proofs.YtalnfjnfcloonaaDoor
open Go.RowKit
set_option linter.unusedVariables false
attribute [local go_sem ↓] ld_addr st_addr
attribute [local go_sem] ldr_addr str_addr

def Ip.nums (p : Ip) : Bool := decide (0 ≤ p.tos ∧ p.tos ≤ 255 ∧ 0 ≤ p.ttl ∧ p.ttl ≤ 255 ∧ 0 ≤ p.pro ∧ p.pro ≤ 255 ∧ 0 ≤ p.id ∧ p.id ≤ 65535)
def Ip.good (p : Ip) : Bool := p.nums && (!p.f6 && (!p.t6 && (goodV p.f6 p.fr && (goodV p.t6 p.to && decide (p.bd.length ≤ 1400)))))

end Go.Proofs.YtalnfjnfcloonaaDoor

/-
  The document's own bytes of a packet of IPv4.
-/
namespace Go.Proofs.YtalnfjnfcloonaaDoor
open Go.RowKit
set_option linter.unusedVariables false
attribute [local go_sem ↓] ld_addr st_addr
attribute [local go_sem] ldr_addr str_addr

def optL (al : Bool) : List UInt8 := if al then [148, 4, 0, 0] else []
/-- The header ahead of its check, and behind it. -/
def Ip.ha (p : Ip) : List UInt8 := putL (69 + (optL p.al).length / 4) 1 ++ (putL p.tos.toNat 1 ++ (putL (20 + (optL p.al).length + p.bd.length) 2 ++ (putL p.id.toNat 2 ++ (putL 0 2 ++ (putL p.ttl.toNat 1 ++ putL p.pro.toNat 1)))))
def Ip.hb (p : Ip) : List UInt8 := p.fr.take 4 ++ (p.to.take 4 ++ optL p.al)
end Go.Proofs.YtalnfjnfcloonaaDoor

/-
  Frames of Ethernet as plain data: their bytes, which are good, what bytes are. Nothing of the program.
-/
namespace Go.Proofs.YtalnfjnfcloonaaDoor
open Go.RowKit
set_option linter.unusedVariables false

def goodTyV (k : Int) : Bool := decide (1536 ≤ k ∧ k ≤ 65535 ∧ k ≠ 33024)
def goodTgV (tg : Bool) (v p : Int) : Bool := if tg then decide (0 ≤ v ∧ v ≤ 4094 ∧ 0 ≤ p ∧ p ≤ 7) else decide (v = 0 ∧ p = 0)
def goodEV (tg : Bool) (v p k : Int) (n : Nat) : Bool := goodTyV k && (goodTgV tg v p && decide (n ≤ 1500))
end Go.Proofs.YtalnfjnfcloonaaDoor

/-
  Packets of IPv4 as plain data: options, what is wrong of bytes, their parts, one hop further. Nothing of the program.
-/
namespace Go.Proofs.YtalnfjnfcloonaaDoor
open Go.RowKit
set_option linter.unusedVariables false

/-- A byte, and a word. -/
def by8 (s : List UInt8) (i : Nat) : Nat := (s.getD i 0).toNat
def wd (s : List UInt8) (i : Nat) : Nat := num ((s.drop i).take 2)
end Go.Proofs.YtalnfjnfcloonaaDoor

/-
  What bytes are as a packet: plain facts. What is read of a packet's own bytes; what is read of bytes one hop further.
-/
namespace Go.Proofs.YtalnfjnfcloonaaDoor
open Go.RowKit
set_option linter.unusedVariables false

theorem goodV_four (l : List UInt8) (h : l.length = 16) (hg : goodV false l = true) : readV (l.take 4) = l := by
  unfold goodV at hg
  rw [Bool.false_or, decide_eq_true_eq] at hg
  rw [hg]
  match l, h with
  | [a, b, c, d, _, _, _, _, _, _, _, _, _, _, _, _], _ => rfl
end Go.Proofs.YtalnfjnfcloonaaDoor

/-
  Talks of IGMP as bytes, plain: what bytes say, a talk's bytes, and that it comes back from them.
-/
namespace Go.Proofs.YtalnfjnfcloonaaDoor
open Go.RowKit
set_option linter.unusedVariables false

def fourL (s : List UInt8) (i : Nat) : AD := (false, readV ((s.drop i).take 4))
def srcsL (s : List UInt8) (i n : Nat) : List AD := (List.range n).map fun k => fourL s (i + 4 * k)
def srcsE (s : List UInt8) (i n : Nat) : Int := if 64 < n then 6 else if s.length < i + 4 * n then 3 else 0
def rec1 (s : List UInt8) (i : Nat) : RC := ⟨by8 s i, fourL s (i + 4), srcsL s (i + 8) (wd s (i + 2))⟩
def recN (s : List UInt8) (i : Nat) : Nat := i + 8 + 4 * wd s (i + 2) + 4 * by8 s (i + 1)
def rcOk (r : RC) : Bool := decide (1 ≤ r.kind ∧ r.kind ≤ 6) && grp8 r.g
def recL (s : List UInt8) : Nat → Nat → List RC × Int
  | _, 0 => ([], 0)
  | i, n + 1 =>
    if s.length < i + 8 then ([], 3)
    else if srcsE s (i + 8) (wd s (i + 2)) ≠ 0 then ([], srcsE s (i + 8) (wd s (i + 2)))
    else if s.length < recN s i then ([], 3)
    else if (recL s (recN s i) n).2 ≠ 0 then ([], (recL s (recN s i) n).2)
    else (if rcOk (rec1 s i) then rec1 s i :: (recL s (recN s i) n).1 else (recL s (recN s i) n).1, 0)
def TK.ok (t : TK) : Prop := adOk t.g ∧ (∀ a ∈ t.src, adOk a) ∧ ∀ r ∈ t.rcs, adOk r.g ∧ ∀ a ∈ r.src, adOk a
end Go.Proofs.YtalnfjnfcloonaaDoor

