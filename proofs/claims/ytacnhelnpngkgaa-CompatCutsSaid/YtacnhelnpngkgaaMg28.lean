/-
  Texts joined: EthD, EthE, EthF, EthG, Mac, Mac6, PureFr, PureCp, Mem, SeQ.
-/
import Derived.Test.YtacnhelnpngkgaaMg27
import Derived.Lib.LazyBuf
import Derived.Deep.RegionLaw
import Derived.Laws.CopyOwn
import Derived.Test.YtacnhelnpngkgaaMg07
import Derived.Test.YtacnhelnpngkgaaAgg
import Derived.Test.YtacnhelnpngkgaaTell
import Derived.Test.YtacnhelnpngkgaaMg01
import Derived.Test.YtacnhelnpngkgaaMg00
import Derived.BigQuiet
import Derived.Below
/-
  The contract of ether.takeMac: an address of Ethernet that a reader passes.
-/
namespace Go.Proofs.Ytacnhelnpngkgaa
open Go.RowKit
set_option linter.unusedVariables false



end Go.Proofs.Ytacnhelnpngkgaa

/-
  The contract of ether.Read, in parts.
-/
namespace Go.Proofs.Ytacnhelnpngkgaa
open Go.RowKit
set_option linter.unusedVariables false



end Go.Proofs.Ytacnhelnpngkgaa

/-
  The contract of ether.Read of a frame with a tag.
-/
namespace Go.Proofs.Ytacnhelnpngkgaa
open Go.RowKit
set_option linter.unusedVariables false




end Go.Proofs.Ytacnhelnpngkgaa

/-
  The contract of ether.Read.
-/
namespace Go.Proofs.Ytacnhelnpngkgaa
open Go.RowKit
set_option linter.unusedVariables false

end Go.Proofs.Ytacnhelnpngkgaa

/-
  The contract of addr.Mac.
-/
namespace Go.Proofs.Ytacnhelnpngkgaa
open Go.RowKit
set_option linter.unusedVariables false
attribute [local go_sem ↓] ld_addr
attribute [local go_sem] ldr_addr

end Go.Proofs.Ytacnhelnpngkgaa

/-
  addr.Mac of a group of IPv6, and of any address.
-/
namespace Go.Proofs.Ytacnhelnpngkgaa
open Go.RowKit
set_option linter.unusedVariables false
attribute [local go_sem ↓] ld_addr
attribute [local go_sem] ldr_addr

end Go.Proofs.Ytacnhelnpngkgaa

/-
  What frames say, as plain data.
-/
namespace Go.Proofs.Ytacnhelnpngkgaa
open Go.RowKit
set_option linter.unusedVariables false
set_option linter.unusedSimpArgs false

structure SD where
  kind : Int
  vl : Int
  fr : AD
  tw : AD
  tk : TK
  pro : Int
  hop : Int
  da : List UInt8
  deriving DecidableEq
structure PK where
  fr : AD
  tw : AD
  pro : Int
  hop : Int
  al : Bool
  bd : List UInt8
def SD.ok (s : SD) : Prop := adOk s.fr ∧ adOk s.tw ∧ s.tk.ok
def PK.ok (p : PK) : Prop := adOk p.fr ∧ adOk p.tw
def gdT (t : TK) : Bool := good8 t || good9 t
def lastN (v : Bool) : Int := if v then 2 else 3
theorem good8_v {t : TK} (h : good8 t = true) : t.v6 = false := by
  unfold good8 at h
  by_cases c : t.v6 = true
  · rw [if_pos (Or.inl c)] at h; cases h
  · simpa using c
theorem good9_v {t : TK} (h : good9 t = true) : t.v6 = true := (good9_cases t h).1
/-- The document's own. -/
def talkR (t : TK) : Bool := t.v6 && good9 t || !t.v6 && good8 t
theorem talkR_eq (t : TK) : talkR t = gdT t := by
  unfold talkR gdT
  cases hv : t.v6 with
  | true =>
    cases h8 : good8 t with
    | true => rw [good8_v h8] at hv; cases hv
    | false => simp
  | false =>
    cases h9 : good9 t with
    | true => rw [good9_v h9] at hv; cases hv
    | false => simp
end Go.Proofs.Ytacnhelnpngkgaa

/-
  Hosts of older versions, as plain records.
-/
namespace Go.Proofs.Ytacnhelnpngkgaa

def recsC (t : TK) : List RC := if t.kind = 3 then [⟨3, t.g, []⟩] else if t.kind ≠ 2 then [] else if t.ver = lastN t.v6 then t.rcs else [⟨2, t.g, []⟩]
def oldC (t : TK) : Int := if t.kind = 2 ∧ t.ver < lastN t.v6 then t.ver else 0
def modeC (v6 : Bool) (now one two : Int) : Int := if now < one then 1 else if now < two ∧ v6 = false then 2 else lastN v6
theorem modeC_in (v6 : Bool) (now one two : Int) : 1 ≤ modeC v6 now one two ∧ modeC v6 now one two ≤ lastN v6 := by
  unfold modeC lastN
  cases v6 <;> repeat' split
  all_goals simp_all
/-- Whether a record counts. -/
def cutIs (v6 : Bool) (m : Int) (r : RC) : Bool := !(decide (m < lastN v6) && (decide (r.kind = 6) || (decide (r.kind = 3) && (decide (m = 1) && !v6))))
/-- What of it does. -/
def cutC (v6 : Bool) (m : Int) (r : RC) : RC := if cutIs v6 m r then (if m < lastN v6 ∧ r.kind = 4 then ⟨4, r.g, []⟩ else r) else ⟨0, zeroA, []⟩
theorem cutC_ok {v6 : Bool} {m : Int} {r : RC} (h : adOk r.g) : adOk (cutC v6 m r).g := by
  unfold cutC
  repeat' split
  all_goals first | exact h | exact zeroA_ok
/-- A report of one record. -/
def repC (v6 : Bool) (r : RC) : TK := ⟨v6, lastN v6, 2, 0, zeroA, false, 0, 0, [], [r]⟩
theorem repC_cut {v6 : Bool} {m : Int} {r : RC} (hi : cutIs v6 m r = true) (h : gdT (repC v6 r) = true) : gdT (repC v6 (cutC v6 m r)) = true := by
  unfold cutC
  rw [if_pos hi]
  split
  · rename_i hk
    obtain ⟨k, g, l⟩ := r
    obtain ⟨-, rfl⟩ := hk
    unfold gdT repC lastN at *
    rw [Bool.or_eq_true] at h ⊢
    cases v6 with
    | false =>
      rcases h with h | h
      · left
        unfold good8 at h ⊢
        simp at h ⊢
        unfold recOk sizeR at *
        simp at h ⊢
        exact ⟨h.1.1, by decide⟩
      · unfold good9 at h; simp at h
    | true =>
      rcases h with h | h
      · unfold good8 at h; simp at h
      · right
        unfold good9 at h ⊢
        simp at h ⊢
        unfold recOk9 sizeR9 at *
        simp at h ⊢
        exact ⟨⟨h.1.1, by decide⟩, h.2.1, h.2.2.1⟩
  · exact h
end Go.Proofs.Ytacnhelnpngkgaa

/-
  Objects in memory: made, kept, boxed, loaded whole.
-/
namespace Go.Proofs.Ytacnhelnpngkgaa
open Go.RowKit
set_option linter.unusedVariables false

theorem obj_ce {w : World} {b o : Nat} {L A C : List Value} {x : Value} {t : TypeId} (h : ObjAt w b L.toArray t) (e : L = A ++ (x :: C)) (ho : A.length = o) : w.cell? ⟨b, o, none⟩ = some x := by
  subst e ho
  rw [h.cell, List.getElem?_toArray, List.getElem?_append_right (Nat.le_refl _)]; simp
theorem obj_re {w : World} {b o n : Nat} {L A M C : List Value} {t : TypeId} (h : ObjAt w b L.toArray t) (e : L = A ++ (M ++ C)) (ho : A.length = o) (hn : M.length = n) : row? w b o n = some M := by subst e; exact obj_row h ho hn
theorem obj_keep {w w' : World} {b : Nat} {cs : Array Value} {t : TypeId} (h : ObjAt w b cs t) (hb : Below w.heap.size w w') : ObjAt w' b cs t := h.below hb h.lt
theorem bbox (w : World) (o : Obj) : Below w.heap.size w (w.alloc o) := (Below.refl _ _).alloc (Nat.le_refl _) o
theorem bbox2 (w : World) (o p : Obj) : Below w.heap.size w ((w.alloc o).alloc p) := (bbox w o).alloc (by simp) p
/-- A block boxed, and the result's cells behind it. -/
structure Bx (w W : World) (c : Array Value) (T : TypeId) (d : Array Value) (U : TypeId) : Prop where
  one : ObjAt W w.heap.size c T
  two : ObjAt W (w.heap.size + 1) d U
  blw : Below w.heap.size w W
theorem Bx.made (w : World) (c : Array Value) (T : TypeId) (d : Array Value) (U : TypeId) : Bx w ((w.alloc (.cells c T)).alloc (.cells d U)) c T d U := by
  refine ⟨(ObjAt.made w _ _).alloc _, ?_, bbox2 _ _ _⟩
  have := ObjAt.made (w.alloc (.cells c T)) d U
  rw [show (w.alloc (.cells c T)).heap.size = w.heap.size + 1 by simp] at this
  exact this
theorem Bx.below {w W W' : World} {c d : Array Value} {T U : TypeId} (h : Bx w W c T d U) (hb : Below W.heap.size W W') : Bx w W' c T d U := ⟨obj_keep h.one hb, obj_keep h.two hb, bstep h.blw hb⟩
theorem Bx.free {w W : World} {c d : Array Value} {T U : TypeId} (h : Bx w W c T d U) (n : Nat) (hn : n ≤ d.size) : free? W (w.heap.size + 1) 0 n = true := obj_free h.two (by omega)
theorem Bx.done {w W : World} {c d : Array Value} {T U : TypeId} (h : Bx w W c T d U) (L : List Value) (hL : L.length = d.size) : row? (aggW W (w.heap.size + 1) L) (w.heap.size + 1) 0 d.size = some L ∧ Below w.heap.size w (aggW W (w.heap.size + 1) L) :=
  ⟨aggW_row (h.free _ (Nat.le_refl _)) hL, aggW_below h.blw (by omega) _⟩
theorem ret_boolF {a b : Bool} (h : a = b) : Ending.returned (.bool a) = .returned (.bool b) := by rw [h]

theorem obj_free_at {w : World} {b : Nat} {cs : Array Value} {t : TypeId} (h : ObjAt w b cs t) (o n : Nat) (hn : o + n ≤ cs.size) : free? w b o n = true :=
  free_of fun j hj => ⟨by rw [h.cell (o + j), Array.getElem?_eq_getElem (by omega)]; rfl, h.free (o + j)⟩
theorem fmade (W : World) (Z : Array Value) (U : TypeId) (n : Nat) (h : n = Z.size) : free? (W.alloc (.cells Z U)) W.heap.size 0 n = true := free_made W Z U n (Nat.le_of_eq h)
theorem newObj (W : World) (Z : Array Value) (U : TypeId) {L : List Value} (hl : L.length = Z.size) (h1 : ∀ v ∈ L, v.oneCell' = true) : ObjAt (aggW (W.alloc (.cells Z U)) W.heap.size L) W.heap.size L.toArray U :=
  aggW_obj (L := Z.toList) (by simpa using ObjAt.made W Z U) (by simpa using hl) h1
theorem newBlw (W : World) (o : Obj) (L : List Value) : Below W.heap.size W (aggW (W.alloc o) W.heap.size L) := aggW_below (bbox W o) (Nat.le_refl _) _
theorem resDone {w W : World} {n : Nat} {c : Array Value} {T : TypeId} (h : ObjAt W n c T) (hb : Below w.heap.size w W) (hn : w.heap.size ≤ n) (L : List Value) (hL : L.length = c.size) : row? (aggW W n L) n 0 c.size = some L ∧ Below w.heap.size w (aggW W n L) :=
  ⟨aggW_row (obj_free h (Nat.le_refl _)) hL, aggW_below hb hn _⟩
end Go.Proofs.Ytacnhelnpngkgaa

/-
  A region that draws its order and whose calls leave a class of worlds: walked once, in the order of the text, guards too.
-/
namespace Go.Proofs.Ytacnhelnpngkgaa
open Go.RowKit
set_option linter.unusedVariables false

/-- A world of a class. -/
structure InS (S : World → Prop) where
  W : World
  h : S W
theorem wp_region_inS {P : Program} {id : Nat} {Q : Exit → Act → World → Prop} {a : Act} {w : World} {l : List Oper} (S : World → Prop) (hm : P.follows .mixedOrders = true) (hB : Region.lexB .any l.toArray = true) (h0 : S w.drew)
    (h : wpQuiet P l.toArray (fun w' => ∃ p : InS S, w' = p.W) (fun a' => ∀ w', (∃ p : InS S, w' = p.W) → Q .normal a' w') l a) : (Code.region id l.toArray true).wp P Q a w :=
  wp_region_quiet (C := fun w' => ∃ p : InS S, w' = p.W) hm hB ⟨⟨w.drew, h0⟩, rfl⟩ (by simpa using h)
/-- A callee's contract, met in a world of the class. -/
theorem Calls.inS {P : Program} {f : FuncId} {args : Array Value} {S : World → Prop} {v : Value} (hk : ∀ W W', S W → Below W.heap.size W W' → S W') (p : InS S)
    (h : ∀ W, S W → Calls P f args W fun e w' => e = .returned v ∧ Below W.heap.size W w') : Calls P f args p.W fun e w'' => e = .returned v ∧ ∃ q : InS S, w'' = q.W :=
  (h p.W p.h).mono fun _ _ ⟨he, hb⟩ => ⟨he, ⟨⟨_, hk _ _ p.h hb⟩, rfl⟩⟩
end Go.Proofs.Ytacnhelnpngkgaa

