/-
  Texts joined: Pure1, OctBits, PureSum, Sum, Refb, IpA, IpW, PureEth, PureIp, IpP, PureTk, Rread, TkC.
-/
import Derived.Test.YtokpogoblnhihaaMg00
import Derived.Test.YtokpogoblnhihaaMg03
import Derived.Test.YtokpogoblnhihaaMg05
import Derived.Lib.SmallJoins
import Derived.Test.YtokpogoblnhihaaIp
import Derived.Deep.RegionHeld3
import Derived.Deep.Cut
import Derived.Deep.AppendLies
import Derived.Great.BuildSlice
/-
  Plain lemmas on numbers and their bytes; nothing of the program.
-/
namespace Go.Proofs.Ytokpogoblnhihaa
open Go.RowKit
set_option linter.unusedVariables false

end Go.Proofs.Ytokpogoblnhihaa

/-
  The contracts of octet.Bits and octet.Set, and of the document's answer Set.
-/
namespace Go.Proofs.Ytokpogoblnhihaa
open Go.RowKit
set_option linter.unusedVariables false

end Go.Proofs.Ytokpogoblnhihaa

/-
  Plain lemmas on Internet checksums; nothing of the program.
-/
namespace Go.Proofs.Ytokpogoblnhihaa
open Go.RowKit
set_option linter.unusedVariables false

end Go.Proofs.Ytokpogoblnhihaa

/-
  The contracts of package sum: Fold, Sum, Check, Good, Update.
-/
namespace Go.Proofs.Ytokpogoblnhihaa
open Go.RowKit
set_option linter.unusedVariables false

end Go.Proofs.Ytokpogoblnhihaa

/-
  The contracts of the document's own answers of layer 2, and of the statements' helpers there.
-/
namespace Go.Proofs.Ytokpogoblnhihaa
open Go.RowKit
set_option linter.unusedVariables false

end Go.Proofs.Ytokpogoblnhihaa

/-
  The document's own Good of a packet of IPv4, its numbers as bytes, and its bytes.
-/
namespace Go.Proofs.Ytokpogoblnhihaa
open Go.RowKit
set_option linter.unusedVariables false
attribute [local go_sem ↓] ld_addr st_addr
attribute [local go_sem] ldr_addr str_addr

def Ip.nums (p : Ip) : Bool := decide (0 ≤ p.tos ∧ p.tos ≤ 255 ∧ 0 ≤ p.ttl ∧ p.ttl ≤ 255 ∧ 0 ≤ p.pro ∧ p.pro ≤ 255 ∧ 0 ≤ p.id ∧ p.id ≤ 65535)
def Ip.good (p : Ip) : Bool := p.nums && (!p.f6 && (!p.t6 && (goodV p.f6 p.fr && (goodV p.t6 p.to && decide (p.bd.length ≤ 1400)))))

end Go.Proofs.Ytokpogoblnhihaa

/-
  The document's own bytes of a packet of IPv4.
-/
namespace Go.Proofs.Ytokpogoblnhihaa
open Go.RowKit
set_option linter.unusedVariables false
attribute [local go_sem ↓] ld_addr st_addr
attribute [local go_sem] ldr_addr str_addr

def optL (al : Bool) : List UInt8 := if al then [148, 4, 0, 0] else []
/-- The header ahead of its check, and behind it. -/
def Ip.ha (p : Ip) : List UInt8 := putL (69 + (optL p.al).length / 4) 1 ++ (putL p.tos.toNat 1 ++ (putL (20 + (optL p.al).length + p.bd.length) 2 ++ (putL p.id.toNat 2 ++ (putL 0 2 ++ (putL p.ttl.toNat 1 ++ putL p.pro.toNat 1)))))
def Ip.hb (p : Ip) : List UInt8 := p.fr.take 4 ++ (p.to.take 4 ++ optL p.al)
end Go.Proofs.Ytokpogoblnhihaa

/-
  Frames of Ethernet as plain data: their bytes, which are good, what bytes are. Nothing of the program.
-/
namespace Go.Proofs.Ytokpogoblnhihaa
open Go.RowKit
set_option linter.unusedVariables false

def goodTyV (k : Int) : Bool := decide (1536 ≤ k ∧ k ≤ 65535 ∧ k ≠ 33024)
def goodTgV (tg : Bool) (v p : Int) : Bool := if tg then decide (0 ≤ v ∧ v ≤ 4094 ∧ 0 ≤ p ∧ p ≤ 7) else decide (v = 0 ∧ p = 0)
def goodEV (tg : Bool) (v p k : Int) (n : Nat) : Bool := goodTyV k && (goodTgV tg v p && decide (n ≤ 1500))
end Go.Proofs.Ytokpogoblnhihaa

/-
  Packets of IPv4 as plain data: options, what is wrong of bytes, their parts, one hop further. Nothing of the program.
-/
namespace Go.Proofs.Ytokpogoblnhihaa
open Go.RowKit
set_option linter.unusedVariables false

/-- A byte, and a word. -/
def by8 (s : List UInt8) (i : Nat) : Nat := (s.getD i 0).toNat
def wd (s : List UInt8) (i : Nat) : Nat := num ((s.drop i).take 2)
end Go.Proofs.Ytokpogoblnhihaa

/-
  What bytes are as a packet: plain facts. What is read of a packet's own bytes; what is read of bytes one hop further.
-/
namespace Go.Proofs.Ytokpogoblnhihaa
open Go.RowKit
set_option linter.unusedVariables false

theorem goodV_four (l : List UInt8) (h : l.length = 16) (hg : goodV false l = true) : readV (l.take 4) = l := by
  unfold goodV at hg
  rw [Bool.false_or, decide_eq_true_eq] at hg
  rw [hg]
  match l, h with
  | [a, b, c, d, _, _, _, _, _, _, _, _, _, _, _, _], _ => rfl
end Go.Proofs.Ytokpogoblnhihaa

/-
  Talks of IGMP as bytes, plain: what bytes say, a talk's bytes, and that it comes back from them.
-/
namespace Go.Proofs.Ytokpogoblnhihaa
open Go.RowKit
set_option linter.unusedVariables false

def fourL (s : List UInt8) (i : Nat) : AD := (false, readV ((s.drop i).take 4))
def srcsL (s : List UInt8) (i n : Nat) : List AD := (List.range n).map fun k => fourL s (i + 4 * k)
def srcsE (s : List UInt8) (i n : Nat) : Int := if 64 < n then 6 else if s.length < i + 4 * n then 3 else 0
def rec1 (s : List UInt8) (i : Nat) : RC := ⟨by8 s i, fourL s (i + 4), srcsL s (i + 8) (wd s (i + 2))⟩
def recN (s : List UInt8) (i : Nat) : Nat := i + 8 + 4 * wd s (i + 2) + 4 * by8 s (i + 1)
def rcOk (r : RC) : Bool := decide (1 ≤ r.kind ∧ r.kind ≤ 6) && grp8 r.g
def recL (s : List UInt8) : Nat → Nat → List RC × Int
  | _, 0 => ([], 0)
  | i, n + 1 =>
    if s.length < i + 8 then ([], 3)
    else if srcsE s (i + 8) (wd s (i + 2)) ≠ 0 then ([], srcsE s (i + 8) (wd s (i + 2)))
    else if s.length < recN s i then ([], 3)
    else if (recL s (recN s i) n).2 ≠ 0 then ([], (recL s (recN s i) n).2)
    else (if rcOk (rec1 s i) then rec1 s i :: (recL s (recN s i) n).1 else (recL s (recN s i) n).1, 0)
def TK.ok (t : TK) : Prop := adOk t.g ∧ (∀ a ∈ t.src, adOk a) ∧ ∀ r ∈ t.rcs, adOk r.g ∧ ∀ a ∈ r.src, adOk a
end Go.Proofs.Ytokpogoblnhihaa

/-
  The document's own reading of an address.
-/
namespace Go.Proofs.Ytokpogoblnhihaa
open Go.RowKit
set_option linter.unusedVariables false
attribute [local go_sem ↓] bld_addr bld_b16 ld_addr st_addr ld_b16
attribute [local go_sem] ldr_addr str_addr ldr_b16

/-- The two objects while the bytes are laid down. -/
def RdS (w wr : World) (v : Bool) (s : List UInt8) (k : Nat) : Prop :=
  ObjAt wr w.heap.size (addrC false (List.replicate 16 0)).toArray 37 ∧ ObjAt wr (w.heap.size + 1) (addrC v (s.take k ++ List.replicate (16 - k) 0)).toArray 37 ∧ Below w.heap.size w wr
theorem addrC_set (v : Bool) (l : List UInt8) (k : Nat) (c : UInt8) : (addrC v l).toArray.setIfInBounds (1 + k) (.int .u8 (c.toNat : Int)) = (addrC v (l.set k c)).toArray := by
  apply Array.ext'
  rw [Array.toList_setIfInBounds]
  show (Value.bool v :: B8 l).set (1 + k) _ = Value.bool v :: B8 (l.set k c)
  rw [Nat.add_comm, List.set_cons_succ]
  unfold B8
  rw [List.map_set]
theorem RdS.step {w wr : World} {v : Bool} {s : List UInt8} {k : Nat} (h : RdS w wr v s k) (hk : k < s.length) (h16 : s.length ≤ 16) : RdS w (wr.setCell ⟨w.heap.size + 1, 1 + k, none⟩ (.int .u8 ((s[k]).toNat : Int))) v s (k + 1) := by
  obtain ⟨h1, h2, h3⟩ := h
  refine ⟨ObjAt.other h1 ⟨w.heap.size + 1, 1 + k, none⟩ _ (by simp), ?_, h3.setCell (p := ⟨w.heap.size + 1, 1 + k, none⟩) (by simp) _⟩
  have o1 := h2.set (1 + k) (.int .u8 ((s[k]).toNat : Int))
  rw [addrC_set] at o1
  have e : (s.take k ++ List.replicate (16 - k) 0).set k s[k] = s.take (k + 1) ++ List.replicate (16 - (k + 1)) 0 := by
    rw [List.set_append_right _ _ (by simp; omega), show 16 - k = (16 - (k + 1)) + 1 by omega, List.replicate_succ, show k - (s.take k).length = 0 by simp; omega, List.set_cons_zero]
    rw [List.take_succ_eq_append_getElem hk, List.append_assoc]
    rfl
  rw [e] at o1
  exact o1
theorem RdS.cell {w wr : World} {v : Bool} {s : List UInt8} {k : Nat} (h : RdS w wr v s k) (hk : k < s.length) (h16 : s.length ≤ 16) : wr.cell? ⟨w.heap.size + 1, 1 + k, none⟩ = some (.int .u8 0) := by
  rw [h.2.1.cell, List.getElem?_toArray]
  rw [show addrC v (s.take k ++ List.replicate (16 - k) 0) = .bool v :: B8 (s.take k ++ List.replicate (16 - k) 0) from rfl, Nat.add_comm, List.getElem?_cons_succ]
  unfold B8
  rw [List.getElem?_map, List.getElem?_append_right (by simp; omega)]
  simp
  have : k - min k s.length < 16 - k := by omega
  simp [this]
theorem RdS.row {w wr : World} {v : Bool} {s : List UInt8} {k : Nat} (h : RdS w wr v s k) (hk : k ≤ s.length) (h16 : s.length ≤ 16) : row? wr (w.heap.size + 1) 0 17 = some (addrC v (s.take k ++ List.replicate (16 - k) 0)) :=
  obj_row (A := []) (M := addrC v (s.take k ++ List.replicate (16 - k) 0)) (C := []) (by simpa using h.2.1) rfl (by rw [addrC_length]; simp; omega)
theorem RdS.free {w wr : World} {v : Bool} {s : List UInt8} {k : Nat} (h : RdS w wr v s k) : free? wr w.heap.size 0 17 = true := obj_free (n := 17) h.1 (by simp [addrC_length])
theorem RdS.start (w : World) (v : Bool) (s : List UInt8) : RdS w (aggW ((w.alloc (.cells #[.bool false, .int .u8 0, .int .u8 0, .int .u8 0, .int .u8 0, .int .u8 0, .int .u8 0, .int .u8 0, .int .u8 0, .int .u8 0, .int .u8 0, .int .u8 0, .int .u8 0, .int .u8 0, .int .u8 0, .int .u8 0, .int .u8 0] 37)).alloc (.cells #[.bool false, .int .u8 0, .int .u8 0, .int .u8 0, .int .u8 0, .int .u8 0, .int .u8 0, .int .u8 0, .int .u8 0, .int .u8 0, .int .u8 0, .int .u8 0, .int .u8 0, .int .u8 0, .int .u8 0, .int .u8 0, .int .u8 0] 37)) (w.heap.size + 1) [.bool v, .int .u8 0, .int .u8 0, .int .u8 0, .int .u8 0, .int .u8 0, .int .u8 0, .int .u8 0, .int .u8 0, .int .u8 0, .int .u8 0, .int .u8 0, .int .u8 0, .int .u8 0, .int .u8 0, .int .u8 0, .int .u8 0]) v s 0 := by
  have h0 := (ObjAt.made w #[.bool false, .int .u8 0, .int .u8 0, .int .u8 0, .int .u8 0, .int .u8 0, .int .u8 0, .int .u8 0, .int .u8 0, .int .u8 0, .int .u8 0, .int .u8 0, .int .u8 0, .int .u8 0, .int .u8 0, .int .u8 0, .int .u8 0] 37).alloc (.cells #[.bool false, .int .u8 0, .int .u8 0, .int .u8 0, .int .u8 0, .int .u8 0, .int .u8 0, .int .u8 0, .int .u8 0, .int .u8 0, .int .u8 0, .int .u8 0, .int .u8 0, .int .u8 0, .int .u8 0, .int .u8 0, .int .u8 0] 37)
  have h1 := ObjAt.made (w.alloc (.cells #[.bool false, .int .u8 0, .int .u8 0, .int .u8 0, .int .u8 0, .int .u8 0, .int .u8 0, .int .u8 0, .int .u8 0, .int .u8 0, .int .u8 0, .int .u8 0, .int .u8 0, .int .u8 0, .int .u8 0, .int .u8 0, .int .u8 0] 37)) #[.bool false, .int .u8 0, .int .u8 0, .int .u8 0, .int .u8 0, .int .u8 0, .int .u8 0, .int .u8 0, .int .u8 0, .int .u8 0, .int .u8 0, .int .u8 0, .int .u8 0, .int .u8 0, .int .u8 0, .int .u8 0, .int .u8 0] 37
  have hz : (w.alloc (.cells #[.bool false, .int .u8 0, .int .u8 0, .int .u8 0, .int .u8 0, .int .u8 0, .int .u8 0, .int .u8 0, .int .u8 0, .int .u8 0, .int .u8 0, .int .u8 0, .int .u8 0, .int .u8 0, .int .u8 0, .int .u8 0, .int .u8 0] 37)).heap.size = w.heap.size + 1 := by simp
  rw [hz] at h1
  have hb : Below w.heap.size w ((w.alloc (.cells #[.bool false, .int .u8 0, .int .u8 0, .int .u8 0, .int .u8 0, .int .u8 0, .int .u8 0, .int .u8 0, .int .u8 0, .int .u8 0, .int .u8 0, .int .u8 0, .int .u8 0, .int .u8 0, .int .u8 0, .int .u8 0, .int .u8 0] 37)).alloc (.cells #[.bool false, .int .u8 0, .int .u8 0, .int .u8 0, .int .u8 0, .int .u8 0, .int .u8 0, .int .u8 0, .int .u8 0, .int .u8 0, .int .u8 0, .int .u8 0, .int .u8 0, .int .u8 0, .int .u8 0, .int .u8 0, .int .u8 0] 37)) := ((Below.refl _ _).alloc (Nat.le_refl _) _).alloc (by simp) _
  exact ⟨aggW_other h0 _ (by omega), aggW_obj (cs := [.bool v, .int .u8 0, .int .u8 0, .int .u8 0, .int .u8 0, .int .u8 0, .int .u8 0, .int .u8 0, .int .u8 0, .int .u8 0, .int .u8 0, .int .u8 0, .int .u8 0, .int .u8 0, .int .u8 0, .int .u8 0, .int .u8 0]) h1 rfl (addrC_one v (List.replicate 16 0)), aggW_below hb (by omega) _⟩
theorem RdS.done {w wr : World} {v : Bool} {s : List UInt8} {k : Nat} (h : RdS w wr v s k) (cs : List Value) (hc : cs.length = 17) : row? (aggW wr w.heap.size cs) w.heap.size 0 17 = some cs ∧ Below w.heap.size w (aggW wr w.heap.size cs) :=
  ⟨aggW_row h.free hc, aggW_below h.2.2 (Nat.le_refl _) _⟩
end Go.Proofs.Ytokpogoblnhihaa

/-
  The document's own four and sources of layer 8.
-/
namespace Go.Proofs.Ytokpogoblnhihaa
open Go.RowKit
set_option linter.unusedVariables false
attribute [local go_sem ↓] ld_addr st_addr bld_addr
attribute [local go_sem] ldr_addr str_addr row?_drewN_eq row?_drew_eq

/-- A row of addresses of one's own. -/
def adsC (l : List AD) : List Value := (l.map adC).flatten
theorem adsC_get {l : List AD} (h : ∀ a ∈ l, adOk a) : ∀ (i j : Nat) (hi : i < l.length), j < 17 → (adsC l)[i * 17 + j]? = (adC l[i])[j]? := by
  induction l with
  | nil => intro i j hi; exact absurd hi (by simp)
  | cons a r ih =>
    intro i j hi hj
    have h1 := adC_length (h a (by simp))
    have e : adsC (a :: r) = adC a ++ adsC r := by simp [adsC]
    rw [e]
    cases i with
    | zero => rw [Nat.zero_mul, Nat.zero_add, List.getElem?_append_left (by omega)]; rfl
    | succ i =>
      rw [List.getElem?_append_right (by omega), h1, show (i + 1) * 17 + j - 17 = i * 17 + j by omega]
      exact ih (fun b hb => h b (by simp [hb])) i j (by simpa using hi) hj
theorem Ads.own {w : World} {base : Nat} {v : Value} {l : List AD} (ho : ∀ a ∈ l, adOk a) (h : w.ownsRow base 37 17 v l.length (adsC l)) : Ads w v l := by
  obtain ⟨h1, h2 | ⟨g, cap, cur, rfl, h3, h4, h5, h6, h7, h8⟩⟩ := h
  · obtain ⟨rfl, h2⟩ := h2
    have : l = [] := List.eq_nil_of_length_eq_zero h2
    subst this
    exact Ads.nil w
  · refine ⟨some ⟨g, 0, none⟩, cap, rfl, h5, h6, ho, fun hn => ⟨g, 0, rfl, (Array.getElem?_eq_some_iff.1 h4).1, fun i hi => ?_⟩⟩
    have hob : ObjAt w g cur 37 := h4
    have hr : w.rangeAt g (0 + i * 17) (adC l[i]) := fun j u hu => by
      have hj : j < 17 := by
        have := (List.getElem?_eq_some_iff.1 hu).1
        rw [adC_length (ho _ (List.getElem_mem hi))] at this
        exact this
      rw [ObjAt.cell hob, ← Array.getElem?_toList]
      have e1 := adsC_get ho i j hi hj
      rw [hu, ← h8, List.getElem?_take] at e1
      rw [Nat.zero_add]
      split at e1
      · exact e1
      · cases e1
    have := row?_of hr
    rw [adC_length (ho _ (List.getElem_mem hi))] at this
    exact this
/-- A slice literal of one address, as one step. -/
noncomputable def adsLit (p : Array (Nat × Value)) : Sem Value := Instr.buildSlice 22 1 p
theorem adsLit_eq (p : Array (Nat × Value)) : Instr.buildSlice 22 1 p = adsLit p := rfl
attribute [local go_sem ↓] adsLit_eq
theorem info_ad : (Try.prog.info? 37).map (fun i => (i.zero, i.size, i.bytes)) = some (some (.agg #[.bool false, .int .u8 0, .int .u8 0, .int .u8 0, .int .u8 0, .int .u8 0, .int .u8 0, .int .u8 0, .int .u8 0, .int .u8 0, .int .u8 0, .int .u8 0, .int .u8 0, .int .u8 0, .int .u8 0, .int .u8 0, .int .u8 0]), 17, 17) := by kernel_rfl
theorem adsLit_run (a : AD) (ho : adOk a) (w : World) : (adsLit #[(0, .agg (adC a).toArray)]).run Try.prog w = .ok (.slice (some ⟨w.heap.size, 0, none⟩) 1 1) (w.alloc (.cells (adC a).toArray 37)) := by
  obtain ⟨i0, hi0, hz0, hz1, hz2⟩ := info_parts info_ad
  obtain ⟨v, l⟩ := a
  obtain ⟨b0, b1, b2, b3, b4, b5, b6, b7, b8, b9, ba, bb, bc, bd, be, bf, e⟩ := list16 (show l.length = 16 from ho)
  subst e
  refine run_buildSlice w 22 37 1 _ _ i0 _ Try.underlying22 hi0 hz0 (by rw [hz1]; decide) (by rw [hz1]; decide) ?_
  rw [hz1]
  kernel_rfl
/-- A slice of addresses whose block holds addresses. -/
def AdT (w : World) (v : Value) : Prop := ∀ (b o n c : Nat), v = .slice (some ⟨b, o, none⟩) n c → b < w.heap.size ∧ ∃ cur fz, w.heap[b]? = some (.cells cur 37 fz)
theorem AdT.below {w w' : World} {v : Value} (h : AdT w v) (hb : Below w.heap.size w w') : AdT w' v := fun b o n c e => by
  obtain ⟨h1, cur, fz, h2⟩ := h b o n c e
  exact ⟨Nat.lt_of_lt_of_le h1 hb.size, cur, fz, (hb.block b h1).trans h2⟩
theorem AdT.own {w : World} {base : Nat} {v : Value} {n : Nat} {xs : List Value} (h : w.ownsRow base 37 17 v n xs) : AdT w v := fun b o n' c e => by
  obtain ⟨h1, h2 | ⟨g, cap, cur, rfl, h3, h4, h5, h6, h7, h8⟩⟩ := h
  · rw [h2.1] at e; cases e
  · simp only [Value.slice.injEq, Option.some.injEq, Addr.mk.injEq] at e
    obtain ⟨⟨rfl, _⟩, _⟩ := e
    exact ⟨(Array.getElem?_eq_some_iff.1 h4).1, cur, _, h4⟩
end Go.Proofs.Ytokpogoblnhihaa

