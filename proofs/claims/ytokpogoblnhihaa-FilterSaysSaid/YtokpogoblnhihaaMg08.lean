/-
  Texts joined: TkG, TkJ, TkW, Tr, Tq, IpB, IpC.
-/
import Derived.Test.YtokpogoblnhihaaMg07
import Derived.Deep.RegionHeld3
import Derived.Deep.Cut
import Derived.BigQuiet
import Derived.Deep.QuietTactic
/-
  The document's own Good of layer 8, but for reports of version 3.
-/
namespace Go.Proofs.Ytokpogoblnhihaa
open Go.RowKit
set_option linter.unusedVariables false
attribute [local go_sem ↓] ld_addr st_addr bld_addr
attribute [local go_sem] ldr_addr str_addr

end Go.Proofs.Ytokpogoblnhihaa

/-
  Records loaded and stored whole, and the document's own Good of a report of version 3.
-/
namespace Go.Proofs.Ytokpogoblnhihaa
open Go.RowKit
set_option linter.unusedVariables false
set_option linter.unusedSimpArgs false
/-- A record with its slice's value. -/
def RcU (w : World) (b o : Nat) (r : RC) (u : Value) : Prop := adOk r.g ∧ b < w.heap.size ∧ row? w b o 19 = some (rcC r u) ∧ Ads w u r.src
theorem RcAt.u {w : World} {b o : Nat} {r : RC} (h : RcAt w b o r) : ∃ u, RcU w b o r u := by
  obtain ⟨h1, h2, u, h3, h4⟩ := h
  exact ⟨u, h1, h2, h3, h4⟩
theorem RcU.at {w : World} {b o : Nat} {r : RC} {u : Value} (h : RcU w b o r u) : RcAt w b o r := ⟨h.1, h.2.1, u, h.2.2.1, h.2.2.2⟩
theorem RcU.below {w w' : World} {b o : Nat} {r : RC} {u : Value} (h : RcU w b o r u) (hb : Below w.heap.size w w') : RcU w' b o r u := by
  obtain ⟨h1, h2, h3, h4⟩ := h
  exact ⟨h1, Nat.lt_of_lt_of_le h2 hb.size, row?_below h3 h2 hb, h4.below hb⟩
/-- What is read of a record. -/
def RcC (w : World) (b o : Nat) (r : RC) (u : Value) : Prop := w.cell? ⟨b, o, none⟩ = some (.int .i64 r.kind) ∧ row? w b (o + 1) 17 = some (adC r.g) ∧ w.cell? ⟨b, o + 18, none⟩ = some u
theorem RcU.cells {w : World} {b o : Nat} {r : RC} {u : Value} (h : RcU w b o r u) : RcC w b o r u := by
  obtain ⟨h1, h2, h3, h4⟩ := h
  obtain ⟨h5, h6⟩ := rangeAt_of_row? h3
  have hl := adC_length h1
  refine ⟨h5 0 _ rfl, ?_, ?_⟩
  · have hr : w.rangeAt b (o + 1) (adC r.g) := fun j v hv => by
      have hj := (List.getElem?_eq_some_iff.1 hv).1
      have := h5 (1 + j) v (by
        unfold rcC
        rw [Nat.add_comm 1 j, List.getElem?_cons_succ, List.getElem?_append_left hj]
        exact hv)
      rw [← Nat.add_assoc] at this
      exact this
    have := row?_of hr
    rw [hl] at this
    exact this
  · exact h5 18 u (by
      unfold rcC
      rw [show (18 : Nat) = 17 + 1 from rfl, List.getElem?_cons_succ, List.getElem?_append_right (by omega), hl]
      rfl)
theorem Ads.one {w : World} {v : Value} {l : List AD} (h : Ads w v l) : v.oneCell' = true := by
  obtain ⟨p, cap, h1, _⟩ := h; rw [h1]; rfl
end Go.Proofs.Ytokpogoblnhihaa

/-
  The document's own Write of layer 8: numbers as bytes, and talks of the elder versions.
-/
namespace Go.Proofs.Ytokpogoblnhihaa
open Go.RowKit
set_option linter.unusedVariables false
set_option linter.unusedSimpArgs false
attribute [local go_sem ↓] ld_addr st_addr bld_addr
attribute [local go_sem] ldr_addr str_addr

end Go.Proofs.Ytokpogoblnhihaa

/-
  A row of records of one's own: a slice that is appended to, a literal of one record, a record built.
-/
namespace Go.Proofs.Ytokpogoblnhihaa
open Go.RowKit
set_option linter.unusedVariables false
set_option linter.unusedSimpArgs false
def rqOk (w : World) (q : List (RC × Value)) : Prop := ∀ x ∈ q, adOk x.1.g ∧ Ads w x.2 x.1.src ∧ AdT w x.2
theorem rqOk.below {w w' : World} {q : List (RC × Value)} (h : rqOk w q) (hb : Below w.heap.size w w') : rqOk w' q := fun x hx => ⟨(h x hx).1, (h x hx).2.1.below hb, (h x hx).2.2.below hb⟩
/-- An append to the row leaves the addresses alone: they lie in blocks of another type. -/
theorem Ads.grown {w w' : World} {row : Option Nat} {u : Value} {l : List AD} (h : Ads w u l) (hg : w.grownBy w' row) (hn : ∀ b o n c, u = .slice (some ⟨b, o, none⟩) n c → some b ≠ row) : Ads w' u l := by
  obtain ⟨p, cap, h1, h2, h3, h4, h5⟩ := h
  refine ⟨p, cap, h1, h2, h3, h4, fun hne => ?_⟩
  obtain ⟨b, o, e1, e2, e3⟩ := h5 hne
  have hb := hn b o l.length cap (by rw [h1, e1])
  refine ⟨b, o, e1, Nat.lt_of_lt_of_le e2 hg.size, fun i hi => ?_⟩
  obtain ⟨r1, r2⟩ := rangeAt_of_row? (e3 i hi)
  have hr : w'.rangeAt b (o + i * 17) (adC l[i]) := fun j v hv => by
    rw [hg.cell_far ⟨b, o + i * 17 + j, none⟩ e2 hb]
    exact r1 j v hv
  have := row?_of hr
  rw [r2] at this
  exact this
theorem AdT.grown {w w' : World} {row : Option Nat} {u : Value} (h : AdT w u) (hg : w.grownBy w' row) (hn : ∀ b o n c, u = .slice (some ⟨b, o, none⟩) n c → some b ≠ row) : AdT w' u := fun b o n c e => by
  obtain ⟨h1, cur, fz, h2⟩ := h b o n c e
  exact ⟨Nat.lt_of_lt_of_le h1 hg.size, cur, fz, (hg.block b h1 (hn b o n c e)).trans h2⟩
end Go.Proofs.Ytokpogoblnhihaa

/-
  A talk in memory that is filled field by field, beside the result's cell.
-/
namespace Go.Proofs.Ytokpogoblnhihaa
open Go.RowKit
set_option linter.unusedVariables false
set_option linter.unusedSimpArgs false
theorem tkC_one {t : TK} {us ur : Value} (h1 : us.oneCell' = true) (h2 : ur.oneCell' = true) : ∀ v ∈ tkC t us ur, v.oneCell' = true := by
  intro v hv
  unfold tkC at hv
  simp only [List.mem_cons, List.mem_append, List.not_mem_nil, or_false] at hv
  rcases hv with (rfl | rfl | rfl | rfl) | (hv | rfl | rfl | rfl | rfl | rfl)
  · rfl
  · rfl
  · rfl
  · rfl
  · exact addrC_one _ _ v hv
  · rfl
  · rfl
  · rfl
  · exact h1
  · exact h2
theorem fok_tk {t : TK} {us ur : Value} (h : adOk t.g) (h1 : us.oneCell' = true) (h2 : ur.oneCell' = true) : fok (tkC t us ur).toArray 26 = true := by
  have h3 : (tkC t us ur).toArray.all (·.oneCell') = true := all_oneCell_toArray (tkC_one h1 h2)
  simp only [fok, h3, Bool.and_true]
  simp [tkC_length h]
theorem Rcs.one {w : World} {v : Value} {l : List RC} (h : Rcs w v l) : v.oneCell' = true := by
  obtain ⟨p, cap, h1, _⟩ := h; rw [h1]; rfl
/-- Slices whose blocks are known to be of their own kind. -/
def AdsT (w : World) (v : Value) (l : List AD) : Prop := Ads w v l ∧ AdT w v
theorem AdsT.below {w w' : World} {v : Value} {l : List AD} (h : AdsT w v l) (hb : Below w.heap.size w w') : AdsT w' v l := ⟨h.1.below hb, h.2.below hb⟩
theorem AdsT.nil (w : World) : AdsT w (.slice none 0 0) [] := ⟨Ads.nil w, fun b o n c e => by cases e⟩
theorem setCells_grown (b : Nat) : ∀ (cs : List Value) (o : Nat) (w : World), w.grownBy (w.setCells b o cs) (some b)
  | [], _, w => ⟨rfl, rfl, rfl, Nat.le_refl _, fun _ _ _ => rfl⟩
  | v :: r, o, w => gtrans (gset w b o v) (setCells_grown b r (o + 1) _)
theorem aggW_grown (w : World) (b : Nat) (cs : List Value) : w.grownBy (aggW w b cs) (some b) := by rw [aggW_eq]; exact setCells_grown b cs 0 w
end Go.Proofs.Ytokpogoblnhihaa

/-
  Contracts of ip4's small functions.
-/
namespace Go.Proofs.Ytokpogoblnhihaa
open Go.RowKit
set_option linter.unusedVariables false
attribute [local go_sem ↓] ld_addr st_addr
attribute [local go_sem] ldr_addr str_addr

end Go.Proofs.Ytokpogoblnhihaa

/-
  Contracts of ip4's readOptions and header.
-/
namespace Go.Proofs.Ytokpogoblnhihaa
open Go.RowKit
set_option linter.unusedVariables false
attribute [local go_sem ↓] ld_addr st_addr
attribute [local go_sem] ldr_addr str_addr

end Go.Proofs.Ytokpogoblnhihaa

