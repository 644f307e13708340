/-
  Texts joined: MgD, MgS, MgM, MgN, MgO, MgU, MgV, MgX, MgY, MgW, MgZ.
-/
import Derived.Test.YtacnhelnpngkgaaMg37
import Derived.Test.YtacnhelnpngkgaaMg27
import Derived.Test.YtacnhelnpngkgaaIp
import Derived.Test.YtacnhelnpngkgaaMg36
import Derived.Test.YtacnhelnpngkgaaMg22
import Derived.Test.YtacnhelnpngkgaaMg00
import Derived.Test.YtacnhelnpngkgaaMg01
import Derived.Test.YtacnhelnpngkgaaMg07
import Derived.Test.YtacnhelnpngkgaaChecked
import Derived.Lib.FrozenHead
import Derived.Deep.RegionHeld3
import Derived.Deep.Cut
import Derived.BigQuiet
import Derived.LoopTactic
import Derived.Deep.QuietTactic
import Derived.Test.YtacnhelnpngkgaaMg16
import Derived.Test.YtacnhelnpngkgaaMg24
/-
  The contract of mld's Good.
-/
namespace Go.Proofs.Ytacnhelnpngkgaa
open Go.RowKit
set_option linter.unusedVariables false
set_option linter.unusedSimpArgs false
end Go.Proofs.Ytacnhelnpngkgaa

/-
  The contract of mld's report.
-/
namespace Go.Proofs.Ytacnhelnpngkgaa
open Go.RowKit
set_option linter.unusedVariables false
set_option linter.unusedSimpArgs false
attribute [local go_sem ↓] ld_addr st_addr bld_addr ld_rec st_rec bld_rec ld_tk st_tk bld_tk rcsLit_eq
attribute [local go_sem] ldr_addr str_addr str_addr_at ldr_rec str_rec ldr_tk str_tk row?_drew_eq

theorem RQ.far9 {base : Nat} {w w' : World} {v : Value} {q : List (RC × Value)} {m : Nat} {L : Array Value} {T : TypeId} (h : RQ base w v q) (hm : ObjAt w m L T) (h1 : T ≠ 24) (h2 : T ≠ 40) (hg : w.grownBy w' (some m)) : RQ base w' v q := by
  refine ⟨own_keep9 h.1 (fun g hgg => ?_), fun x hx => ?_⟩
  · have hne := row_ne9 h.1 hm h2.symm
    refine hg.block g ?_ (fun e => hne (by rw [hgg, e]))
    obtain ⟨_, q2 | ⟨g', cap, cur, q1, q2, q3, _⟩⟩ := h.1
    · rw [q2.1] at hgg; simp [Value.ownBlock] at hgg
    · rw [q1] at hgg; simp only [Value.ownBlock, Option.some.injEq] at hgg; subst hgg; exact (Array.getElem?_eq_some_iff.1 q3).1
  · obtain ⟨a, b, c⟩ := h.2 x hx
    have := AdsT.far9 (l := x.1.src) ⟨b, c⟩ hm h1 hg
    exact ⟨a, this.1, this.2⟩
theorem RS9.good {s : List UInt8} {n i m : Nat} {acc : List RC} (h : RS9 s n i (m + 1) acc) (he : recQE9 s i = 0) : recN9 s i ≤ s.length ∧ RS9 s n (recN9 s i) m (if rcOk9 (rec9 s i) then acc ++ [rec9 s i] else acc) := by
  unfold recQE9 at he
  by_cases a1 : s.length < i + 20
  · rw [if_pos a1] at he; cases he
  rw [if_neg a1] at he
  by_cases a2 : srcsE9 s (i + 20) (wd s (i + 2)) = 0
  · rw [if_neg (by rw [a2]; simp)] at he
    by_cases a3 : s.length < recN9 s i
    · rw [if_pos a3] at he; cases he
    · exact ⟨by omega, RS9.step h a1 a2 a3⟩
  · rw [if_pos a2] at he; exact absurd he a2
end Go.Proofs.Ytacnhelnpngkgaa

/-
  The contract of mld's member.
-/
namespace Go.Proofs.Ytacnhelnpngkgaa
open Go.RowKit
set_option linter.unusedVariables false
set_option linter.unusedSimpArgs false
attribute [local go_sem ↓] ld_addr st_addr bld_addr ld_tk st_tk bld_tk
attribute [local go_sem] ldr_addr str_addr str_addr_at ldr_tk str_tk row?_drew_eq

theorem RcT.far9 {w w' : World} {v : Value} {l : List RC} {m : Nat} {L : Array Value} {T : TypeId} (h : RcT w v l) (hm : ObjAt w m L T) (h1 : T ≠ 24) (h2 : T ≠ 40) (hg : w.grownBy w' (some m)) : RcT w' v l := by
  obtain ⟨base, q, h3, h4⟩ := h
  exact ⟨base, q, h3.far9 hm h1 h2 hg, h4⟩
end Go.Proofs.Ytacnhelnpngkgaa

/-
  The contract of mld's queryMore.
-/
namespace Go.Proofs.Ytacnhelnpngkgaa
open Go.RowKit
set_option linter.unusedVariables false
set_option linter.unusedSimpArgs false
attribute [local go_sem ↓] ld_addr st_addr bld_addr ld_tk st_tk bld_tk
attribute [local go_sem] ldr_addr str_addr str_addr_at ldr_tk str_tk row?_drew_eq

attribute [local go_sem] row?_drewN_eq
end Go.Proofs.Ytacnhelnpngkgaa

/-
  The contract of mld's query.
-/
namespace Go.Proofs.Ytacnhelnpngkgaa
open Go.RowKit
set_option linter.unusedVariables false
set_option linter.unusedSimpArgs false
attribute [local go_sem ↓] ld_addr st_addr bld_addr ld_tk st_tk bld_tk
attribute [local go_sem] ldr_addr str_addr str_addr_at ldr_tk str_tk row?_drew_eq

end Go.Proofs.Ytacnhelnpngkgaa

/-
  A strings.Builder in memory: what it holds, what its calls leave alone; copyCheck, WriteString, String.
-/
namespace Go.Proofs.Ytacnhelnpngkgaa
open Go.RowKit
set_option linter.unusedVariables false
set_option linter.unusedSimpArgs false

/-- What a writer's calls leave alone. -/
structure SK (base b : Nat) (w w' : World) : Prop where
  os : w'.os = w.os
  tape : w'.tape = w.tape
  output : w'.output = w.output
  size : w.heap.size ≤ w'.heap.size
  block : ∀ i, i < w.heap.size → i ≠ b → (i < base ∨ ∀ cur fz, w.heap[i]? ≠ some (.cells cur 5 fz)) → w'.heap[i]? = w.heap[i]?
theorem SK.refl (base b : Nat) (w : World) : SK base b w w := ⟨rfl, rfl, rfl, Nat.le_refl _, fun _ _ _ _ => rfl⟩
theorem SK.trans {base b : Nat} {w w1 w2 : World} (h : SK base b w w1) (k : SK base b w1 w2) : SK base b w w2 :=
  ⟨k.os.trans h.os, k.tape.trans h.tape, k.output.trans h.output, Nat.le_trans h.size k.size, fun i hi hb ho => by
    have e := h.block i hi hb ho
    refine (k.block i (Nat.lt_of_lt_of_le hi h.size) hb ?_).trans e
    rcases ho with ho | ho
    · exact Or.inl ho
    · right; intro cur fz; rw [e]; exact ho cur fz⟩
theorem SK.of {base b : Nat} {w w' : World} (k : Below w.heap.size w w') : SK base b w w' := ⟨k.os, k.tape, k.output, k.size, fun i hi _ _ => k.block i hi⟩
theorem SK.set (base b j : Nat) (w : World) (v : Value) : SK base b w (w.setCell ⟨b, j, none⟩ v) :=
  ⟨rfl, rfl, rfl, by simp [World.setCell], fun i _ hb _ => Below.heap_setCell _ _ _ _ (fun e => hb (by simp [e]))⟩
theorem SK.grown {base b n : Nat} {w w' : World} {v : Value} {xs : List Value} (hown : w.ownsRowF base 5 1 v n xs) (hg : w.grownBy w' v.ownBlock) : SK base b w w' :=
  ⟨hg.os, hg.tape, hg.output, hg.size, fun i hi hb ho => hg.block i hi (fun e => by
    rcases hown.2 with ⟨rfl, _⟩ | ⟨g, cap, cur, fz, rfl, hbg, hgg, _⟩
    · simp [Value.ownBlock] at e
    · simp only [Value.ownBlock, Option.some.injEq] at e
      subst e
      rcases ho with ho | ho
      · omega
      · exact ho cur fz hgg)⟩
theorem SK.blw {base b N : Nat} {w w' : World} (h : SK base b w w') (h1 : N ≤ base) (h2 : N ≤ b) (h3 : N ≤ w.heap.size) : Below N w w' :=
  ⟨h.os, h.tape, h.output, h.size, fun i hi => h.block i (by omega) (by omega) (Or.inl (by omega))⟩
end Go.Proofs.Ytacnhelnpngkgaa

/-
  The contracts of mld's nums and addrs.
-/
namespace Go.Proofs.Ytacnhelnpngkgaa
open Go.RowKit
set_option linter.unusedVariables false
set_option linter.unusedSimpArgs false
attribute [local go_sem ↓] ld_addr st_addr bld_addr
attribute [local go_sem] ldr_addr str_addr

/-- A slice of numbers. -/
def Ints (w : World) (v : Value) (l : List Nat) : Prop := ∃ g cap, v = .slice (some ⟨g, 0, none⟩) l.length cap ∧ l.length ≤ cap ∧ cap ≤ maxLen ∧ g < w.heap.size ∧ ∀ i (h : i < l.length), w.cell? ⟨g, i, none⟩ = some (.int .i64 (l[i] : Nat))
theorem Ints.below {w w' : World} {v : Value} {l : List Nat} (h : Ints w v l) (hb : Below w.heap.size w w') : Ints w' v l := by
  obtain ⟨g, cap, h1, h2, h3, h4, h5⟩ := h
  exact ⟨g, cap, h1, h2, h3, Nat.lt_of_lt_of_le h4 hb.size, fun i hi => (hb.cell (p := ⟨g, i, none⟩) h4).trans (h5 i hi)⟩
end Go.Proofs.Ytacnhelnpngkgaa

/-
  The contracts of mld's typeOf, flags, and of rest of queries and of talks of version 1.
-/
namespace Go.Proofs.Ytacnhelnpngkgaa
open Go.RowKit
set_option linter.unusedVariables false
set_option linter.unusedSimpArgs false
attribute [local go_sem ↓] ld_addr st_addr bld_addr ld_rec st_rec ld_tk st_tk bld_tk adsLit_eq
attribute [local go_sem] ldr_addr str_addr str_addr_at ldr_tk str_tk ldr_rec str_rec row?_drew_eq

end Go.Proofs.Ytacnhelnpngkgaa

/-
  The contracts of mld's records.
-/
namespace Go.Proofs.Ytacnhelnpngkgaa
open Go.RowKit
set_option linter.unusedVariables false
set_option linter.unusedSimpArgs false
attribute [local go_sem ↓] ld_addr st_addr bld_addr ld_rec st_rec ld_tk st_tk bld_tk adsLit_eq
attribute [local go_sem] ldr_addr str_addr str_addr_at ldr_tk str_tk ldr_rec str_rec row?_drew_eq

end Go.Proofs.Ytacnhelnpngkgaa

/-
  The contracts of mld's rest of queries of version 2.
-/
namespace Go.Proofs.Ytacnhelnpngkgaa
open Go.RowKit
set_option linter.unusedVariables false
set_option linter.unusedSimpArgs false
attribute [local go_sem ↓] ld_addr st_addr bld_addr ld_rec st_rec ld_tk st_tk bld_tk adsLit_eq
attribute [local go_sem] ldr_addr str_addr str_addr_at ldr_tk str_tk ldr_rec str_rec row?_drew_eq

end Go.Proofs.Ytacnhelnpngkgaa

/-
  The contracts of mld's rest, pseudo and Write.
-/
namespace Go.Proofs.Ytacnhelnpngkgaa
open Go.RowKit
set_option linter.unusedVariables false
set_option linter.unusedSimpArgs false
/-- A slice literal of two addresses, as one step. -/
noncomputable def adsLit2 (p : Array (Nat × Value)) : Sem Value := Instr.buildSlice 25 2 p
theorem adsLit2_eq (p : Array (Nat × Value)) : Instr.buildSlice 25 2 p = adsLit2 p := rfl
end Go.Proofs.Ytacnhelnpngkgaa

