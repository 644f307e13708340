/-
  Texts joined: TkJ, TkW, Tr.
-/
import Derived.Test.YtgpccgcppbdlpaaMg11
import Derived.Test.YtgpccgcppbdlpaaMg10
import Derived.Deep.RegionHeld3
import Derived.Deep.Cut
import Derived.BigQuiet
/-
  Records loaded and stored whole, and the document's own Good of a report of version 3.
-/
namespace Go.Proofs.Ytgpccgcppbdlpaa
open Go.RowKit
set_option linter.unusedVariables false
set_option linter.unusedSimpArgs false
theorem ld_rec (a : Addr) : loadVar 41 a = aggLd 41 a := rfl
theorem st_rec (a : Addr) (v : Value) : storeVar 41 a v = aggSt 41 a v := rfl
theorem bld_rec (p : Array (Nat × Value)) : Instr.build 41 p = aggBuild 41 p := rfl
theorem ldr_rec (b o : Nat) (w : World) : (aggLd 41 ⟨b, o, none⟩).run Try.prog w = match row? w b o 19 with | some cs => .ok (.agg cs.toArray) w | none => aggLdSlow 41 b o w :=
  ld_run Try.underlying41 rfl (by kernel_rfl) b o w
theorem str_rec (b : Nat) (cs : Array Value) (w : World) : (aggSt 41 ⟨b, 0, none⟩ (.agg cs)).run Try.prog w = match free? w b 0 19 && fok cs 19 with | true => .ok () (aggW w b cs.toList) | false => aggStSlow 41 b 0 (.agg cs) w :=
  st_run (by kernel_rfl) b cs w
/-- A record with its slice's value. -/
def RcU (w : World) (b o : Nat) (r : RC) (u : Value) : Prop := adOk r.g ∧ b < w.heap.size ∧ row? w b o 19 = some (rcC r u) ∧ Ads w u r.src
theorem RcAt.u {w : World} {b o : Nat} {r : RC} (h : RcAt w b o r) : ∃ u, RcU w b o r u := by
  obtain ⟨h1, h2, u, h3, h4⟩ := h
  exact ⟨u, h1, h2, h3, h4⟩
theorem RcU.at {w : World} {b o : Nat} {r : RC} {u : Value} (h : RcU w b o r u) : RcAt w b o r := ⟨h.1, h.2.1, u, h.2.2.1, h.2.2.2⟩
theorem RcU.below {w w' : World} {b o : Nat} {r : RC} {u : Value} (h : RcU w b o r u) (hb : Below w.heap.size w w') : RcU w' b o r u := by
  obtain ⟨h1, h2, h3, h4⟩ := h
  exact ⟨h1, Nat.lt_of_lt_of_le h2 hb.size, row?_below h3 h2 hb, h4.below hb⟩
/-- What is read of a record. -/
def RcC (w : World) (b o : Nat) (r : RC) (u : Value) : Prop := w.cell? ⟨b, o, none⟩ = some (.int .i64 r.kind) ∧ row? w b (o + 1) 17 = some (adC r.g) ∧ w.cell? ⟨b, o + 18, none⟩ = some u
theorem RcU.cells {w : World} {b o : Nat} {r : RC} {u : Value} (h : RcU w b o r u) : RcC w b o r u := by
  obtain ⟨h1, h2, h3, h4⟩ := h
  obtain ⟨h5, h6⟩ := rangeAt_of_row? h3
  have hl := adC_length h1
  refine ⟨h5 0 _ rfl, ?_, ?_⟩
  · have hr : w.rangeAt b (o + 1) (adC r.g) := fun j v hv => by
      have hj := (List.getElem?_eq_some_iff.1 hv).1
      have := h5 (1 + j) v (by
        unfold rcC
        rw [Nat.add_comm 1 j, List.getElem?_cons_succ, List.getElem?_append_left hj]
        exact hv)
      rw [← Nat.add_assoc] at this
      exact this
    have := row?_of hr
    rw [hl] at this
    exact this
  · exact h5 18 u (by
      unfold rcC
      rw [show (18 : Nat) = 17 + 1 from rfl, List.getElem?_cons_succ, List.getElem?_append_right (by omega), hl]
      rfl)
theorem Ads.one {w : World} {v : Value} {l : List AD} (h : Ads w v l) : v.oneCell' = true := by
  obtain ⟨p, cap, h1, _⟩ := h; rw [h1]; rfl
theorem rcC_one {r : RC} {u : Value} (hu : u.oneCell' = true) : ∀ v ∈ rcC r u, v.oneCell' = true := by
  intro v hv
  unfold rcC at hv
  simp only [List.mem_cons, List.mem_append, List.not_mem_nil, or_false] at hv
  rcases hv with rfl | hv | rfl
  · rfl
  · exact addrC_one _ _ v hv
  · exact hu
theorem fok_rec {r : RC} {u : Value} (h : adOk r.g) (hu : u.oneCell' = true) : fok (rcC r u).toArray 19 = true := by
  have h1 : (rcC r u).toArray.all (·.oneCell') = true := all_oneCell_toArray (rcC_one hu)
  simp only [fok, h1, Bool.and_true]
  simp [rcC_length h]
/-- A record boxed. -/
theorem RcU.boxed {w : World} {r : RC} {u : Value} {cs : Array Value} (ho : adOk r.g) (ha : Ads w u r.src) (hc : 19 = cs.size) : RcU (aggW (w.alloc (.cells cs 41)) w.heap.size (rcC r u)) w.heap.size 0 r u ∧ Below w.heap.size w (aggW (w.alloc (.cells cs 41)) w.heap.size (rcC r u)) := by
  have hf := free_made w cs 41 19 (by omega)
  have hb : Below w.heap.size w (aggW (w.alloc (.cells cs 41)) w.heap.size (rcC r u)) := aggW_below ((Below.refl _ _).alloc (Nat.le_refl _) _) (Nat.le_refl _) _
  have hob := ObjAt.made w cs 41
  have h2 := aggW_obj (L := cs.toList) (cs := rcC r u) (by simpa using hob) (by rw [rcC_length ho]; simp; omega) (rcC_one ha.one)
  exact ⟨⟨ho, h2.lt, aggW_row hf (rcC_length ho u), ha.below hb⟩, hb⟩
/-- Records that are good, one by one. -/
theorem rcs_take_succ {l : List RC} {k : Nat} (h : k < l.length) (f : RC → Bool) : (l.take (k + 1)).all f = ((l.take k).all f && f l[k]) := by
  rw [List.take_succ_eq_append_getElem h, List.all_append]; simp
attribute [local go_sem ↓] ld_addr st_addr bld_addr ld_rec st_rec
attribute [local go_sem] ldr_addr str_addr ldr_rec str_rec


end Go.Proofs.Ytgpccgcppbdlpaa

/-
  The document's own Write of layer 8: numbers as bytes, and talks of the elder versions.
-/
namespace Go.Proofs.Ytgpccgcppbdlpaa
open Go.RowKit
set_option linter.unusedVariables false
set_option linter.unusedSimpArgs false
attribute [local go_sem ↓] ld_addr st_addr bld_addr ld_rec st_rec
attribute [local go_sem] ldr_addr str_addr ldr_rec str_rec

/-- The talk boxed. -/
def TB (w W : World) (t : TK) (us ur : Value) : Prop := TkAt W w.heap.size t us ur ∧ Below w.heap.size w W
theorem TB.made (w : World) (t : TK) (us ur : Value) (h : adOk t.g) : TB w (w.alloc (.cells (tkC t us ur).toArray 28)) t us ur := ⟨TkAt.made w t us ur h, (Below.refl _ _).alloc (Nat.le_refl _) _⟩
theorem TB.keep {w W W' : World} {t : TK} {us ur : Value} (h : TB w W t us ur) (hb : Below W.heap.size W W') : TB w W' t us ur := ⟨h.1.below hb, bstep h.2 hb⟩
theorem TB.drewN {w W : World} {t : TK} {us ur : Value} (h : TB w W t us ur) (n : Nat) : TB w (W.drewN n) t us ur := h.keep (bdrewN (Below.refl _ _) n)
theorem foldN_le16 (n : Nat) : foldN n ≤ 65535 := foldN_le n


end Go.Proofs.Ytgpccgcppbdlpaa

/-
  A row of records of one's own: a slice that is appended to, a literal of one record, a record built.
-/
namespace Go.Proofs.Ytgpccgcppbdlpaa
open Go.RowKit
set_option linter.unusedVariables false
set_option linter.unusedSimpArgs false
/-- Records with their slices' values, as cells. -/
def rqC (q : List (RC × Value)) : List Value := (q.map fun x => rcC x.1 x.2).flatten
def rqOk (w : World) (q : List (RC × Value)) : Prop := ∀ x ∈ q, adOk x.1.g ∧ Ads w x.2 x.1.src ∧ AdT w x.2
theorem rqC_get {w : World} {q : List (RC × Value)} (h : rqOk w q) : ∀ (i j : Nat) (hi : i < q.length), j < 19 → (rqC q)[i * 19 + j]? = (rcC q[i].1 q[i].2)[j]? := by
  induction q with
  | nil => intro i j hi; exact absurd hi (by simp)
  | cons a r ih =>
    intro i j hi hj
    have h1 := rcC_length (h a (by simp)).1 a.2
    have e : rqC (a :: r) = rcC a.1 a.2 ++ rqC r := by simp [rqC]
    rw [e]
    cases i with
    | zero => rw [Nat.zero_mul, Nat.zero_add, List.getElem?_append_left (by omega)]; rfl
    | succ i =>
      rw [List.getElem?_append_right (by omega), h1, show (i + 1) * 19 + j - 19 = i * 19 + j by omega]
      exact ih (fun b hb => h b (by simp [hb])) i j (by simpa using hi) hj
theorem rqC_snoc (q : List (RC × Value)) (r : RC) (u : Value) : rqC (q ++ [(r, u)]) = rqC q ++ rcC r u := by unfold rqC; simp
theorem rqOk.below {w w' : World} {q : List (RC × Value)} (h : rqOk w q) (hb : Below w.heap.size w w') : rqOk w' q := fun x hx => ⟨(h x hx).1, (h x hx).2.1.below hb, (h x hx).2.2.below hb⟩
/-- A slice of one's own that holds them. -/
def RQ (base : Nat) (w : World) (v : Value) (q : List (RC × Value)) : Prop := w.ownsRow base 41 19 v q.length (rqC q) ∧ rqOk w q
theorem RQ.below {base : Nat} {w w' : World} {v : Value} {q : List (RC × Value)} (h : RQ base w v q) (hb : Below w.heap.size w w') : RQ base w' v q := ⟨own_below8 h.1 hb, h.2.below hb⟩
theorem RQ.rcs {base : Nat} {w : World} {v : Value} {q : List (RC × Value)} (h : RQ base w v q) : Rcs w v (q.map Prod.fst) := by
  obtain ⟨⟨h1, h2 | ⟨g, cap, cur, rfl, h3, h4, h5, h6, h7, h8⟩⟩, hok⟩ := h
  · obtain ⟨rfl, h2⟩ := h2
    have : q = [] := List.eq_nil_of_length_eq_zero h2
    subst this
    exact Rcs.nil w
  · refine ⟨some ⟨g, 0, none⟩, cap, by simp, by simpa using h5, h6, fun hn => ⟨g, 0, rfl, fun i hi => ?_⟩⟩
    have hi' : i < q.length := by simpa using hi
    have hob : ObjAt w g cur 41 := h4
    have hx := hok q[i] (List.getElem_mem hi')
    rw [List.getElem_map]
    refine ⟨hx.1, (Array.getElem?_eq_some_iff.1 h4).1, q[i].2, ?_, hx.2.1⟩
    have hl := rcC_length hx.1 q[i].2
    have hr : w.rangeAt g (0 + i * 19) (rcC q[i].1 q[i].2) := fun j u hu => by
      have hj : j < 19 := by
        have := (List.getElem?_eq_some_iff.1 hu).1
        rw [hl] at this
        exact this
      rw [ObjAt.cell hob, ← Array.getElem?_toList]
      have e1 := rqC_get hok i j hi' hj
      rw [hu, ← h8, List.getElem?_take] at e1
      rw [Nat.zero_add]
      split at e1
      · exact e1
      · cases e1
    have := row?_of hr
    rw [hl] at this
    exact this
theorem info_rec : (Try.prog.info? 41).map (fun i => (i.zero, i.size, i.bytes)) = some (some (.agg #[.int .i64 0, .bool false, .int .u8 0, .int .u8 0, .int .u8 0, .int .u8 0, .int .u8 0, .int .u8 0, .int .u8 0, .int .u8 0, .int .u8 0, .int .u8 0, .int .u8 0, .int .u8 0, .int .u8 0, .int .u8 0, .int .u8 0, .int .u8 0, .slice none 0 0]), 19, 56) := by kernel_rfl
/-- A slice literal of one record, as one step. -/
noncomputable def rcsLit (p : Array (Nat × Value)) : Sem Value := Instr.buildSlice 26 1 p
theorem rcsLit_eq (p : Array (Nat × Value)) : Instr.buildSlice 26 1 p = rcsLit p := rfl
theorem rcsLit_run (r : RC) (ho : adOk r.g) (p : Option Addr) (n c : Nat) (w : World) : (rcsLit #[(0, .agg (rcC r (.slice p n c)).toArray)]).run Try.prog w = .ok (.slice (some ⟨w.heap.size, 0, none⟩) 1 1) (w.alloc (.cells (rcC r (.slice p n c)).toArray 41)) := by
  obtain ⟨i0, hi0, hz0, hz1, hz2⟩ := info_parts info_rec
  obtain ⟨k, g, src⟩ := r
  obtain ⟨v, l⟩ := g
  obtain ⟨b0, b1, b2, b3, b4, b5, b6, b7, b8, b9, ba, bb, bc, bd, be, bf, e⟩ := list16 (show l.length = 16 from ho)
  subst e
  refine run_buildSlice w 26 41 1 _ _ i0 _ Try.underlying26 hi0 hz0 (by rw [hz1]; decide) (by rw [hz1]; decide) ?_
  rw [hz1]
  kernel_rfl
/-- An append to the row leaves the addresses alone: they lie in blocks of another type. -/
theorem Ads.grown {w w' : World} {row : Option Nat} {u : Value} {l : List AD} (h : Ads w u l) (hg : w.grownBy w' row) (hn : ∀ b o n c, u = .slice (some ⟨b, o, none⟩) n c → some b ≠ row) : Ads w' u l := by
  obtain ⟨p, cap, h1, h2, h3, h4, h5⟩ := h
  refine ⟨p, cap, h1, h2, h3, h4, fun hne => ?_⟩
  obtain ⟨b, o, e1, e2, e3⟩ := h5 hne
  have hb := hn b o l.length cap (by rw [h1, e1])
  refine ⟨b, o, e1, Nat.lt_of_lt_of_le e2 hg.size, fun i hi => ?_⟩
  obtain ⟨r1, r2⟩ := rangeAt_of_row? (e3 i hi)
  have hr : w'.rangeAt b (o + i * 17) (adC l[i]) := fun j v hv => by
    rw [hg.cell_far ⟨b, o + i * 17 + j, none⟩ e2 hb]
    exact r1 j v hv
  have := row?_of hr
  rw [r2] at this
  exact this
theorem AdT.grown {w w' : World} {row : Option Nat} {u : Value} (h : AdT w u) (hg : w.grownBy w' row) (hn : ∀ b o n c, u = .slice (some ⟨b, o, none⟩) n c → some b ≠ row) : AdT w' u := fun b o n c e => by
  obtain ⟨h1, cur, fz, h2⟩ := h b o n c e
  exact ⟨Nat.lt_of_lt_of_le h1 hg.size, cur, fz, (hg.block b h1 (hn b o n c e)).trans h2⟩
theorem AdT.far {w : World} {base n : Nat} {v u : Value} {xs : List Value} (h : AdT w u) (hown : w.ownsRow base 41 19 v n xs) : ∀ b o n c, u = .slice (some ⟨b, o, none⟩) n c → some b ≠ v.ownBlock := fun b o n c e => by
  obtain ⟨h1, cur, fz, h2⟩ := h b o n c e
  obtain ⟨_, h3 | ⟨g, cap, cur', rfl, _, h4, _⟩⟩ := hown
  · rw [h3.1]; simp [Value.ownBlock]
  · intro hb
    simp only [Value.ownBlock, Option.some.injEq] at hb
    subst hb
    rw [h2] at h4
    simp at h4
theorem rqOk.grown {w w' : World} {base n : Nat} {v : Value} {xs : List Value} {q : List (RC × Value)} (h : rqOk w q) (hown : w.ownsRow base 41 19 v n xs) (hg : w.grownBy w' v.ownBlock) : rqOk w' q := fun x hx => by
  obtain ⟨h1, h2, h3⟩ := h x hx
  exact ⟨h1, h2.grown hg (h3.far hown), h3.grown hg (h3.far hown)⟩
/-- One more. -/
theorem RQ.snoc {base : Nat} {w w' : World} {v v' : Value} {q : List (RC × Value)} {r : RC} {u : Value} (h : RQ base w v q) (hr : adOk r.g ∧ Ads w u r.src ∧ AdT w u) (hown : w'.ownsRow base 41 19 v' (q.length + 1) (rqC q ++ rcC r u)) (hg : w.grownBy w' v.ownBlock) : RQ base w' v' (q ++ [(r, u)]) := by
  refine ⟨by rw [rqC_snoc, List.length_append]; exact hown, ?_⟩
  intro x hx
  rcases List.mem_append.1 hx with h1 | h1
  · exact (h.2.grown h.1 hg) x h1
  · rw [List.mem_singleton] at h1
    subst h1
    exact ⟨hr.1, hr.2.1.grown hg (hr.2.2.far h.1), hr.2.2.grown hg (hr.2.2.far h.1)⟩
end Go.Proofs.Ytgpccgcppbdlpaa

