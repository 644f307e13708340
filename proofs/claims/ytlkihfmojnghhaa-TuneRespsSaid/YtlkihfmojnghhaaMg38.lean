/-
  Texts joined: CodW, EqM, IgQ, IgR, IqH, IgS, IgT, IgM, FrR.
-/
import Derived.Test.YtlkihfmojnghhaaCodP
import Derived.OpenShut
import Derived.Test.YtlkihfmojnghhaaEqA
import Derived.Test.YtlkihfmojnghhaaMg30
import Derived.Test.YtlkihfmojnghhaaMg24
import Derived.Shelf.Abstract
import Derived.Test.YtlkihfmojnghhaaMg22
import Derived.Test.YtlkihfmojnghhaaIp
import Derived.Test.YtlkihfmojnghhaaMg34
import Derived.Test.YtlkihfmojnghhaaMg27
/-
  The walks of the laws of layer 7.
-/
namespace Go.Proofs.Ytlkihfmojnghhaa
open Go.RowKit
set_option linter.unusedVariables false

theorem clamp_in (c m : Nat) (h : c ≤ m) : clampN (c : Int) m = c := by unfold clampN; split <;> omega
end Go.Proofs.Ytlkihfmojnghhaa

/-
  Two addresses of Ethernet are held against each other.
-/
namespace Go.Proofs.Ytlkihfmojnghhaa
open Go.RowKit
set_option linter.unusedVariables false

end Go.Proofs.Ytlkihfmojnghhaa

/-
  The contracts of igmp's parser: num, addr, checksum, end, and each.
-/
namespace Go.Proofs.Ytlkihfmojnghhaa
open Go.RowKit
set_option linter.unusedVariables false
set_option linter.unusedSimpArgs false
attribute [local go_sem ↓] ld_addr st_addr bld_addr
attribute [local go_sem] ldr_addr str_addr row?_drew_eq

end Go.Proofs.Ytlkihfmojnghhaa

/-
  The contract of igmp's parser's sources.
-/
namespace Go.Proofs.Ytlkihfmojnghhaa
open Go.RowKit
set_option linter.unusedVariables false
set_option linter.unusedSimpArgs false
attribute [local go_sem ↓] ld_addr st_addr bld_addr adsLit_eq
attribute [local go_sem] ldr_addr str_addr row?_drew_eq

theorem row_ne {w : World} {base m n size : Nat} {v : Value} {xs : List Value} {L : Array Value} {T T' : TypeId} (h : w.ownsRow base T size v n xs) (hm : ObjAt w m L T') (hT : T ≠ T') : some m ≠ v.ownBlock := by
  obtain ⟨_, h2 | ⟨g, cap, cur, rfl, _, hg, _⟩⟩ := h
  · rw [h2.1]; simp [Value.ownBlock]
  · intro e
    simp only [Value.ownBlock, Option.some.injEq] at e
    subst e
    unfold ObjAt at hm
    rw [hg] at hm
    simp only [Option.some.injEq, Obj.cells.injEq] at hm
    exact hT hm.2.1
theorem own_keep {w w' : World} {base n size : Nat} {v : Value} {xs : List Value} {T : TypeId} (h : w.ownsRow base T size v n xs) (hk : ∀ g, v.ownBlock = some g → w'.heap[g]? = w.heap[g]?) : w'.ownsRow base T size v n xs := by
  obtain ⟨h1, h2 | ⟨g, cap, cur, e1, e2, e3, e4⟩⟩ := h
  · exact ⟨h1, .inl h2⟩
  · exact ⟨h1, .inr ⟨g, cap, cur, e1, e2, (hk g (by rw [e1]; rfl)).trans e3, e4⟩⟩
end Go.Proofs.Ytlkihfmojnghhaa

/-
  The contract of ip6.Options.
-/
namespace Go.Proofs.Ytlkihfmojnghhaa
open Go.RowKit
set_option linter.unusedVariables false

end Go.Proofs.Ytlkihfmojnghhaa

/-
  The contract of igmp's parser's record.
-/
namespace Go.Proofs.Ytlkihfmojnghhaa
open Go.RowKit
set_option linter.unusedVariables false
set_option linter.unusedSimpArgs false
attribute [local go_sem ↓] ld_addr st_addr bld_addr ld_rec st_rec bld_rec
attribute [local go_sem] ldr_addr str_addr str_addr_at ldr_rec str_rec row?_drew_eq

/-- Stores and calls elsewhere leave addresses alone. -/
theorem AdsT.far {w w' : World} {v : Value} {l : List AD} {m : Nat} {L : Array Value} {T : TypeId} (h : AdsT w v l) (hm : ObjAt w m L T) (hT : T ≠ 31) (hg : w.grownBy w' (some m)) : AdsT w' v l := by
  have hf : ∀ b o n c, v = .slice (some ⟨b, o, none⟩) n c → some b ≠ some m := fun b o n c e => by
    obtain ⟨h1, cur, fz, h2⟩ := h.2 b o n c e
    intro hb
    simp only [Option.some.injEq] at hb
    subst hb
    unfold ObjAt at hm
    rw [h2] at hm
    simp only [Option.some.injEq, Obj.cells.injEq] at hm
    exact hT hm.2.1.symm
  exact ⟨h.1.grown hg hf, h.2.grown hg hf⟩
end Go.Proofs.Ytlkihfmojnghhaa

/-
  The contract of igmp's parser's report.
-/
namespace Go.Proofs.Ytlkihfmojnghhaa
open Go.RowKit
set_option linter.unusedVariables false
set_option linter.unusedSimpArgs false
attribute [local go_sem ↓] ld_addr st_addr bld_addr ld_rec st_rec bld_rec ld_tk st_tk bld_tk rcsLit_eq
attribute [local go_sem] ldr_addr str_addr str_addr_at ldr_rec str_rec ldr_tk str_tk row?_drew_eq

theorem RQ.far {base : Nat} {w w' : World} {v : Value} {q : List (RC × Value)} {m : Nat} {L : Array Value} {T : TypeId} (h : RQ base w v q) (hm : ObjAt w m L T) (h1 : T ≠ 31) (h2 : T ≠ 55) (hg : w.grownBy w' (some m)) : RQ base w' v q := by
  refine ⟨own_keep h.1 (fun g hgg => ?_), fun x hx => ?_⟩
  · have hne := row_ne h.1 hm h2.symm
    refine hg.block g ?_ (fun e => hne (by rw [hgg, e]))
    obtain ⟨_, q2 | ⟨g', cap, cur, q1, q2, q3, _⟩⟩ := h.1
    · rw [q2.1] at hgg; simp [Value.ownBlock] at hgg
    · rw [q1] at hgg; simp only [Value.ownBlock, Option.some.injEq] at hgg; subst hgg; exact (Array.getElem?_eq_some_iff.1 q3).1
  · obtain ⟨a, b, c⟩ := h.2 x hx
    have := AdsT.far (l := x.1.src) ⟨b, c⟩ hm h1 hg
    exact ⟨a, this.1, this.2⟩
end Go.Proofs.Ytlkihfmojnghhaa

/-
  The contracts of igmp's parser's member, queryMore, query.
-/
namespace Go.Proofs.Ytlkihfmojnghhaa
open Go.RowKit
set_option linter.unusedVariables false
set_option linter.unusedSimpArgs false
attribute [local go_sem ↓] ld_addr st_addr bld_addr ld_tk st_tk bld_tk
attribute [local go_sem] ldr_addr str_addr str_addr_at ldr_tk str_tk row?_drew_eq

theorem RcT.far {w w' : World} {v : Value} {l : List RC} {m : Nat} {L : Array Value} {T : TypeId} (h : RcT w v l) (hm : ObjAt w m L T) (h1 : T ≠ 31) (h2 : T ≠ 55) (hg : w.grownBy w' (some m)) : RcT w' v l := by
  obtain ⟨base, q, h3, h4⟩ := h
  exact ⟨base, q, h3.far hm h1 h2 hg, h4⟩
end Go.Proofs.Ytlkihfmojnghhaa

/-
  The contracts of frame's readPacket, other, takeTalk, readTalk and Read, over what their callees tell.
-/
namespace Go.Proofs.Ytlkihfmojnghhaa
open Go.RowKit
set_option linter.unusedVariables false
set_option linter.unusedSimpArgs false
attribute [local go_sem ↓] ld_addr st_addr bld_addr ld_tk st_tk bld_tk
attribute [local go_sem] ldr_addr str_addr ldr_tk str_tk row?_drewN_eq row?_drew_eq


end Go.Proofs.Ytlkihfmojnghhaa

