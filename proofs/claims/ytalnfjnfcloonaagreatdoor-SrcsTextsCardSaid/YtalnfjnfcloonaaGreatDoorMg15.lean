/-
  Texts joined: TkC, TkG, TkJ, TkW, Tr, Tq, IpB, IpC.
-/
import Derived.Test.YtalnfjnfcloonaaGreatDoorMg14
import Derived.Deep.AppendLies
import Derived.Great.BuildSlice
import Derived.Deep.RegionHeld3
import Derived.Deep.Cut
import Derived.BigQuiet
import Derived.Deep.QuietTactic
/-
  The document's own four and sources of layer 8.
-/
namespace Go.Proofs.YtalnfjnfcloonaaGreatDoor
open Go.RowKit
set_option linter.unusedVariables false
attribute [local go_sem ↓] ld_addr st_addr bld_addr
attribute [local go_sem] ldr_addr str_addr row?_drewN_eq row?_drew_eq

/-- A row of addresses of one's own. -/
def adsC (l : List AD) : List Value := (l.map adC).flatten
theorem adsC_get {l : List AD} (h : ∀ a ∈ l, adOk a) : ∀ (i j : Nat) (hi : i < l.length), j < 17 → (adsC l)[i * 17 + j]? = (adC l[i])[j]? := by
  induction l with
  | nil => intro i j hi; exact absurd hi (by simp)
  | cons a r ih =>
    intro i j hi hj
    have h1 := adC_length (h a (by simp))
    have e : adsC (a :: r) = adC a ++ adsC r := by simp [adsC]
    rw [e]
    cases i with
    | zero => rw [Nat.zero_mul, Nat.zero_add, List.getElem?_append_left (by omega)]; rfl
    | succ i =>
      rw [List.getElem?_append_right (by omega), h1, show (i + 1) * 17 + j - 17 = i * 17 + j by omega]
      exact ih (fun b hb => h b (by simp [hb])) i j (by simpa using hi) hj
theorem Ads.own {w : World} {base : Nat} {v : Value} {l : List AD} (ho : ∀ a ∈ l, adOk a) (h : w.ownsRow base 36 17 v l.length (adsC l)) : Ads w v l := by
  obtain ⟨h1, h2 | ⟨g, cap, cur, rfl, h3, h4, h5, h6, h7, h8⟩⟩ := h
  · obtain ⟨rfl, h2⟩ := h2
    have : l = [] := List.eq_nil_of_length_eq_zero h2
    subst this
    exact Ads.nil w
  · refine ⟨some ⟨g, 0, none⟩, cap, rfl, h5, h6, ho, fun hn => ⟨g, 0, rfl, (Array.getElem?_eq_some_iff.1 h4).1, fun i hi => ?_⟩⟩
    have hob : ObjAt w g cur 36 := h4
    have hr : w.rangeAt g (0 + i * 17) (adC l[i]) := fun j u hu => by
      have hj : j < 17 := by
        have := (List.getElem?_eq_some_iff.1 hu).1
        rw [adC_length (ho _ (List.getElem_mem hi))] at this
        exact this
      rw [ObjAt.cell hob, ← Array.getElem?_toList]
      have e1 := adsC_get ho i j hi hj
      rw [hu, ← h8, List.getElem?_take] at e1
      rw [Nat.zero_add]
      split at e1
      · exact e1
      · cases e1
    have := row?_of hr
    rw [adC_length (ho _ (List.getElem_mem hi))] at this
    exact this
/-- A slice literal of one address, as one step. -/
noncomputable def adsLit (p : Array (Nat × Value)) : Sem Value := Instr.buildSlice 22 1 p
theorem adsLit_eq (p : Array (Nat × Value)) : Instr.buildSlice 22 1 p = adsLit p := rfl
attribute [local go_sem ↓] adsLit_eq
theorem info_ad : (Tryz.prog.info? 36).map (fun i => (i.zero, i.size, i.bytes)) = some (some (.agg #[.bool false, .int .u8 0, .int .u8 0, .int .u8 0, .int .u8 0, .int .u8 0, .int .u8 0, .int .u8 0, .int .u8 0, .int .u8 0, .int .u8 0, .int .u8 0, .int .u8 0, .int .u8 0, .int .u8 0, .int .u8 0, .int .u8 0]), 17, 17) := by kernel_rfl
theorem adsLit_run (a : AD) (ho : adOk a) (w : World) : (adsLit #[(0, .agg (adC a).toArray)]).run Tryz.prog w = .ok (.slice (some ⟨w.heap.size, 0, none⟩) 1 1) (w.alloc (.cells (adC a).toArray 36)) := by
  obtain ⟨i0, hi0, hz0, hz1, hz2⟩ := info_parts info_ad
  obtain ⟨v, l⟩ := a
  obtain ⟨b0, b1, b2, b3, b4, b5, b6, b7, b8, b9, ba, bb, bc, bd, be, bf, e⟩ := list16 (show l.length = 16 from ho)
  subst e
  refine run_buildSlice w 22 36 1 _ _ i0 _ Tryz.underlying22 hi0 hz0 (by rw [hz1]; decide) (by rw [hz1]; decide) ?_
  rw [hz1]
  kernel_rfl
/-- A slice of addresses whose block holds addresses. -/
def AdT (w : World) (v : Value) : Prop := ∀ (b o n c : Nat), v = .slice (some ⟨b, o, none⟩) n c → b < w.heap.size ∧ ∃ cur fz, w.heap[b]? = some (.cells cur 36 fz)
theorem AdT.below {w w' : World} {v : Value} (h : AdT w v) (hb : Below w.heap.size w w') : AdT w' v := fun b o n c e => by
  obtain ⟨h1, cur, fz, h2⟩ := h b o n c e
  exact ⟨Nat.lt_of_lt_of_le h1 hb.size, cur, fz, (hb.block b h1).trans h2⟩
theorem AdT.own {w : World} {base : Nat} {v : Value} {n : Nat} {xs : List Value} (h : w.ownsRow base 36 17 v n xs) : AdT w v := fun b o n' c e => by
  obtain ⟨h1, h2 | ⟨g, cap, cur, rfl, h3, h4, h5, h6, h7, h8⟩⟩ := h
  · rw [h2.1] at e; cases e
  · simp only [Value.slice.injEq, Option.some.injEq, Addr.mk.injEq] at e
    obtain ⟨⟨rfl, _⟩, _⟩ := e
    exact ⟨(Array.getElem?_eq_some_iff.1 h4).1, cur, _, h4⟩
end Go.Proofs.YtalnfjnfcloonaaGreatDoor

/-
  The document's own Good of layer 8, but for reports of version 3.
-/
namespace Go.Proofs.YtalnfjnfcloonaaGreatDoor
open Go.RowKit
set_option linter.unusedVariables false
attribute [local go_sem ↓] ld_addr st_addr bld_addr
attribute [local go_sem] ldr_addr str_addr

end Go.Proofs.YtalnfjnfcloonaaGreatDoor

/-
  Records loaded and stored whole, and the document's own Good of a report of version 3.
-/
namespace Go.Proofs.YtalnfjnfcloonaaGreatDoor
open Go.RowKit
set_option linter.unusedVariables false
set_option linter.unusedSimpArgs false
/-- A record with its slice's value. -/
def RcU (w : World) (b o : Nat) (r : RC) (u : Value) : Prop := adOk r.g ∧ b < w.heap.size ∧ row? w b o 19 = some (rcC r u) ∧ Ads w u r.src
theorem RcAt.u {w : World} {b o : Nat} {r : RC} (h : RcAt w b o r) : ∃ u, RcU w b o r u := by
  obtain ⟨h1, h2, u, h3, h4⟩ := h
  exact ⟨u, h1, h2, h3, h4⟩
theorem RcU.at {w : World} {b o : Nat} {r : RC} {u : Value} (h : RcU w b o r u) : RcAt w b o r := ⟨h.1, h.2.1, u, h.2.2.1, h.2.2.2⟩
theorem RcU.below {w w' : World} {b o : Nat} {r : RC} {u : Value} (h : RcU w b o r u) (hb : Below w.heap.size w w') : RcU w' b o r u := by
  obtain ⟨h1, h2, h3, h4⟩ := h
  exact ⟨h1, Nat.lt_of_lt_of_le h2 hb.size, row?_below h3 h2 hb, h4.below hb⟩
/-- What is read of a record. -/
def RcC (w : World) (b o : Nat) (r : RC) (u : Value) : Prop := w.cell? ⟨b, o, none⟩ = some (.int .i64 r.kind) ∧ row? w b (o + 1) 17 = some (adC r.g) ∧ w.cell? ⟨b, o + 18, none⟩ = some u
theorem RcU.cells {w : World} {b o : Nat} {r : RC} {u : Value} (h : RcU w b o r u) : RcC w b o r u := by
  obtain ⟨h1, h2, h3, h4⟩ := h
  obtain ⟨h5, h6⟩ := rangeAt_of_row? h3
  have hl := adC_length h1
  refine ⟨h5 0 _ rfl, ?_, ?_⟩
  · have hr : w.rangeAt b (o + 1) (adC r.g) := fun j v hv => by
      have hj := (List.getElem?_eq_some_iff.1 hv).1
      have := h5 (1 + j) v (by
        unfold rcC
        rw [Nat.add_comm 1 j, List.getElem?_cons_succ, List.getElem?_append_left hj]
        exact hv)
      rw [← Nat.add_assoc] at this
      exact this
    have := row?_of hr
    rw [hl] at this
    exact this
  · exact h5 18 u (by
      unfold rcC
      rw [show (18 : Nat) = 17 + 1 from rfl, List.getElem?_cons_succ, List.getElem?_append_right (by omega), hl]
      rfl)
theorem Ads.one {w : World} {v : Value} {l : List AD} (h : Ads w v l) : v.oneCell' = true := by
  obtain ⟨p, cap, h1, _⟩ := h; rw [h1]; rfl
end Go.Proofs.YtalnfjnfcloonaaGreatDoor

/-
  The document's own Write of layer 8: numbers as bytes, and talks of the elder versions.
-/
namespace Go.Proofs.YtalnfjnfcloonaaGreatDoor
open Go.RowKit
set_option linter.unusedVariables false
set_option linter.unusedSimpArgs false
attribute [local go_sem ↓] ld_addr st_addr bld_addr
attribute [local go_sem] ldr_addr str_addr

end Go.Proofs.YtalnfjnfcloonaaGreatDoor

/-
  A row of records of one's own: a slice that is appended to, a literal of one record, a record built.
-/
namespace Go.Proofs.YtalnfjnfcloonaaGreatDoor
open Go.RowKit
set_option linter.unusedVariables false
set_option linter.unusedSimpArgs false
def rqOk (w : World) (q : List (RC × Value)) : Prop := ∀ x ∈ q, adOk x.1.g ∧ Ads w x.2 x.1.src ∧ AdT w x.2
theorem rqOk.below {w w' : World} {q : List (RC × Value)} (h : rqOk w q) (hb : Below w.heap.size w w') : rqOk w' q := fun x hx => ⟨(h x hx).1, (h x hx).2.1.below hb, (h x hx).2.2.below hb⟩
/-- An append to the row leaves the addresses alone: they lie in blocks of another type. -/
theorem Ads.grown {w w' : World} {row : Option Nat} {u : Value} {l : List AD} (h : Ads w u l) (hg : w.grownBy w' row) (hn : ∀ b o n c, u = .slice (some ⟨b, o, none⟩) n c → some b ≠ row) : Ads w' u l := by
  obtain ⟨p, cap, h1, h2, h3, h4, h5⟩ := h
  refine ⟨p, cap, h1, h2, h3, h4, fun hne => ?_⟩
  obtain ⟨b, o, e1, e2, e3⟩ := h5 hne
  have hb := hn b o l.length cap (by rw [h1, e1])
  refine ⟨b, o, e1, Nat.lt_of_lt_of_le e2 hg.size, fun i hi => ?_⟩
  obtain ⟨r1, r2⟩ := rangeAt_of_row? (e3 i hi)
  have hr : w'.rangeAt b (o + i * 17) (adC l[i]) := fun j v hv => by
    rw [hg.cell_far ⟨b, o + i * 17 + j, none⟩ e2 hb]
    exact r1 j v hv
  have := row?_of hr
  rw [r2] at this
  exact this
theorem AdT.grown {w w' : World} {row : Option Nat} {u : Value} (h : AdT w u) (hg : w.grownBy w' row) (hn : ∀ b o n c, u = .slice (some ⟨b, o, none⟩) n c → some b ≠ row) : AdT w' u := fun b o n c e => by
  obtain ⟨h1, cur, fz, h2⟩ := h b o n c e
  exact ⟨Nat.lt_of_lt_of_le h1 hg.size, cur, fz, (hg.block b h1 (hn b o n c e)).trans h2⟩
end Go.Proofs.YtalnfjnfcloonaaGreatDoor

/-
  A talk in memory that is filled field by field, beside the result's cell.
-/
namespace Go.Proofs.YtalnfjnfcloonaaGreatDoor
open Go.RowKit
set_option linter.unusedVariables false
set_option linter.unusedSimpArgs false
theorem tkC_one {t : TK} {us ur : Value} (h1 : us.oneCell' = true) (h2 : ur.oneCell' = true) : ∀ v ∈ tkC t us ur, v.oneCell' = true := by
  intro v hv
  unfold tkC at hv
  simp only [List.mem_cons, List.mem_append, List.not_mem_nil, or_false] at hv
  rcases hv with (rfl | rfl | rfl | rfl) | (hv | rfl | rfl | rfl | rfl | rfl)
  · rfl
  · rfl
  · rfl
  · rfl
  · exact addrC_one _ _ v hv
  · rfl
  · rfl
  · rfl
  · exact h1
  · exact h2
theorem fok_tk {t : TK} {us ur : Value} (h : adOk t.g) (h1 : us.oneCell' = true) (h2 : ur.oneCell' = true) : fok (tkC t us ur).toArray 26 = true := by
  have h3 : (tkC t us ur).toArray.all (·.oneCell') = true := all_oneCell_toArray (tkC_one h1 h2)
  simp only [fok, h3, Bool.and_true]
  simp [tkC_length h]
theorem Rcs.one {w : World} {v : Value} {l : List RC} (h : Rcs w v l) : v.oneCell' = true := by
  obtain ⟨p, cap, h1, _⟩ := h; rw [h1]; rfl
/-- Slices whose blocks are known to be of their own kind. -/
def AdsT (w : World) (v : Value) (l : List AD) : Prop := Ads w v l ∧ AdT w v
theorem AdsT.below {w w' : World} {v : Value} {l : List AD} (h : AdsT w v l) (hb : Below w.heap.size w w') : AdsT w' v l := ⟨h.1.below hb, h.2.below hb⟩
theorem AdsT.nil (w : World) : AdsT w (.slice none 0 0) [] := ⟨Ads.nil w, fun b o n c e => by cases e⟩
end Go.Proofs.YtalnfjnfcloonaaGreatDoor

/-
  Contracts of ip4's small functions.
-/
namespace Go.Proofs.YtalnfjnfcloonaaGreatDoor
open Go.RowKit
set_option linter.unusedVariables false
attribute [local go_sem ↓] ld_addr st_addr
attribute [local go_sem] ldr_addr str_addr

end Go.Proofs.YtalnfjnfcloonaaGreatDoor

/-
  Contracts of ip4's readOptions and header.
-/
namespace Go.Proofs.YtalnfjnfcloonaaGreatDoor
open Go.RowKit
set_option linter.unusedVariables false
attribute [local go_sem ↓] ld_addr st_addr
attribute [local go_sem] ldr_addr str_addr

end Go.Proofs.YtalnfjnfcloonaaGreatDoor

