/-
  Texts joined: TkJ, TkW, Tr, Tq.
-/
import Derived.Test.YtgpccgcppbdlpaaGreatMg10
import Derived.Test.YtgpccgcppbdlpaaGreatMg09
import Derived.Deep.RegionHeld3
import Derived.Deep.Cut
import Derived.BigQuiet
/-
  Records loaded and stored whole, and the document's own Good of a report of version 3.
-/
namespace Go.Proofs.YtgpccgcppbdlpaaGreat
open Go.RowKit
set_option linter.unusedVariables false
set_option linter.unusedSimpArgs false
theorem ld_rec (a : Addr) : loadVar 62 a = aggLd 62 a := rfl
theorem st_rec (a : Addr) (v : Value) : storeVar 62 a v = aggSt 62 a v := rfl
theorem bld_rec (p : Array (Nat × Value)) : Instr.build 62 p = aggBuild 62 p := rfl
theorem ldr_rec (b o : Nat) (w : World) : (aggLd 62 ⟨b, o, none⟩).run Tryz.prog w = match row? w b o 19 with | some cs => .ok (.agg cs.toArray) w | none => aggLdSlow 62 b o w :=
  ld_run Tryz.underlying62 rfl (by kernel_rfl) b o w
theorem str_rec (b : Nat) (cs : Array Value) (w : World) : (aggSt 62 ⟨b, 0, none⟩ (.agg cs)).run Tryz.prog w = match free? w b 0 19 && fok cs 19 with | true => .ok () (aggW w b cs.toList) | false => aggStSlow 62 b 0 (.agg cs) w :=
  st_run (by kernel_rfl) b cs w
/-- A record with its slice's value. -/
def RcU (w : World) (b o : Nat) (r : RC) (u : Value) : Prop := adOk r.g ∧ b < w.heap.size ∧ row? w b o 19 = some (rcC r u) ∧ Ads w u r.src
theorem RcAt.u {w : World} {b o : Nat} {r : RC} (h : RcAt w b o r) : ∃ u, RcU w b o r u := by
  obtain ⟨h1, h2, u, h3, h4⟩ := h
  exact ⟨u, h1, h2, h3, h4⟩
theorem RcU.at {w : World} {b o : Nat} {r : RC} {u : Value} (h : RcU w b o r u) : RcAt w b o r := ⟨h.1, h.2.1, u, h.2.2.1, h.2.2.2⟩
theorem RcU.below {w w' : World} {b o : Nat} {r : RC} {u : Value} (h : RcU w b o r u) (hb : Below w.heap.size w w') : RcU w' b o r u := by
  obtain ⟨h1, h2, h3, h4⟩ := h
  exact ⟨h1, Nat.lt_of_lt_of_le h2 hb.size, row?_below h3 h2 hb, h4.below hb⟩
/-- What is read of a record. -/
def RcC (w : World) (b o : Nat) (r : RC) (u : Value) : Prop := w.cell? ⟨b, o, none⟩ = some (.int .i64 r.kind) ∧ row? w b (o + 1) 17 = some (adC r.g) ∧ w.cell? ⟨b, o + 18, none⟩ = some u
theorem RcU.cells {w : World} {b o : Nat} {r : RC} {u : Value} (h : RcU w b o r u) : RcC w b o r u := by
  obtain ⟨h1, h2, h3, h4⟩ := h
  obtain ⟨h5, h6⟩ := rangeAt_of_row? h3
  have hl := adC_length h1
  refine ⟨h5 0 _ rfl, ?_, ?_⟩
  · have hr : w.rangeAt b (o + 1) (adC r.g) := fun j v hv => by
      have hj := (List.getElem?_eq_some_iff.1 hv).1
      have := h5 (1 + j) v (by
        unfold rcC
        rw [Nat.add_comm 1 j, List.getElem?_cons_succ, List.getElem?_append_left hj]
        exact hv)
      rw [← Nat.add_assoc] at this
      exact this
    have := row?_of hr
    rw [hl] at this
    exact this
  · exact h5 18 u (by
      unfold rcC
      rw [show (18 : Nat) = 17 + 1 from rfl, List.getElem?_cons_succ, List.getElem?_append_right (by omega), hl]
      rfl)
theorem Ads.one {w : World} {v : Value} {l : List AD} (h : Ads w v l) : v.oneCell' = true := by
  obtain ⟨p, cap, h1, _⟩ := h; rw [h1]; rfl
theorem rcC_one {r : RC} {u : Value} (hu : u.oneCell' = true) : ∀ v ∈ rcC r u, v.oneCell' = true := by
  intro v hv
  unfold rcC at hv
  simp only [List.mem_cons, List.mem_append, List.not_mem_nil, or_false] at hv
  rcases hv with rfl | hv | rfl
  · rfl
  · exact addrC_one _ _ v hv
  · exact hu
theorem fok_rec {r : RC} {u : Value} (h : adOk r.g) (hu : u.oneCell' = true) : fok (rcC r u).toArray 19 = true := by
  have h1 : (rcC r u).toArray.all (·.oneCell') = true := all_oneCell_toArray (rcC_one hu)
  simp only [fok, h1, Bool.and_true]
  simp [rcC_length h]
/-- A record boxed. -/
theorem RcU.boxed {w : World} {r : RC} {u : Value} {cs : Array Value} (ho : adOk r.g) (ha : Ads w u r.src) (hc : 19 = cs.size) : RcU (aggW (w.alloc (.cells cs 62)) w.heap.size (rcC r u)) w.heap.size 0 r u ∧ Below w.heap.size w (aggW (w.alloc (.cells cs 62)) w.heap.size (rcC r u)) := by
  have hf := free_made w cs 62 19 (by omega)
  have hb : Below w.heap.size w (aggW (w.alloc (.cells cs 62)) w.heap.size (rcC r u)) := aggW_below ((Below.refl _ _).alloc (Nat.le_refl _) _) (Nat.le_refl _) _
  have hob := ObjAt.made w cs 62
  have h2 := aggW_obj (L := cs.toList) (cs := rcC r u) (by simpa using hob) (by rw [rcC_length ho]; simp; omega) (rcC_one ha.one)
  exact ⟨⟨ho, h2.lt, aggW_row hf (rcC_length ho u), ha.below hb⟩, hb⟩
/-- Records that are good, one by one. -/
theorem rcs_take_succ {l : List RC} {k : Nat} (h : k < l.length) (f : RC → Bool) : (l.take (k + 1)).all f = ((l.take k).all f && f l[k]) := by
  rw [List.take_succ_eq_append_getElem h, List.all_append]; simp
attribute [local go_sem ↓] ld_addr st_addr bld_addr ld_rec st_rec
attribute [local go_sem] ldr_addr str_addr ldr_rec str_rec


end Go.Proofs.YtgpccgcppbdlpaaGreat

/-
  The document's own Write of layer 8: numbers as bytes, and talks of the elder versions.
-/
namespace Go.Proofs.YtgpccgcppbdlpaaGreat
open Go.RowKit
set_option linter.unusedVariables false
set_option linter.unusedSimpArgs false
attribute [local go_sem ↓] ld_addr st_addr bld_addr ld_rec st_rec
attribute [local go_sem] ldr_addr str_addr ldr_rec str_rec

/-- The talk boxed. -/
def TB (w W : World) (t : TK) (us ur : Value) : Prop := TkAt W w.heap.size t us ur ∧ Below w.heap.size w W
theorem TB.made (w : World) (t : TK) (us ur : Value) (h : adOk t.g) : TB w (w.alloc (.cells (tkC t us ur).toArray 28)) t us ur := ⟨TkAt.made w t us ur h, (Below.refl _ _).alloc (Nat.le_refl _) _⟩
theorem TB.keep {w W W' : World} {t : TK} {us ur : Value} (h : TB w W t us ur) (hb : Below W.heap.size W W') : TB w W' t us ur := ⟨h.1.below hb, bstep h.2 hb⟩
theorem TB.drewN {w W : World} {t : TK} {us ur : Value} (h : TB w W t us ur) (n : Nat) : TB w (W.drewN n) t us ur := h.keep (bdrewN (Below.refl _ _) n)
theorem foldN_le16 (n : Nat) : foldN n ≤ 65535 := foldN_le n


end Go.Proofs.YtgpccgcppbdlpaaGreat

/-
  A row of records of one's own: a slice that is appended to, a literal of one record, a record built.
-/
namespace Go.Proofs.YtgpccgcppbdlpaaGreat
open Go.RowKit
set_option linter.unusedVariables false
set_option linter.unusedSimpArgs false
/-- Records with their slices' values, as cells. -/
def rqC (q : List (RC × Value)) : List Value := (q.map fun x => rcC x.1 x.2).flatten
def rqOk (w : World) (q : List (RC × Value)) : Prop := ∀ x ∈ q, adOk x.1.g ∧ Ads w x.2 x.1.src ∧ AdT w x.2
theorem rqC_get {w : World} {q : List (RC × Value)} (h : rqOk w q) : ∀ (i j : Nat) (hi : i < q.length), j < 19 → (rqC q)[i * 19 + j]? = (rcC q[i].1 q[i].2)[j]? := by
  induction q with
  | nil => intro i j hi; exact absurd hi (by simp)
  | cons a r ih =>
    intro i j hi hj
    have h1 := rcC_length (h a (by simp)).1 a.2
    have e : rqC (a :: r) = rcC a.1 a.2 ++ rqC r := by simp [rqC]
    rw [e]
    cases i with
    | zero => rw [Nat.zero_mul, Nat.zero_add, List.getElem?_append_left (by omega)]; rfl
    | succ i =>
      rw [List.getElem?_append_right (by omega), h1, show (i + 1) * 19 + j - 19 = i * 19 + j by omega]
      exact ih (fun b hb => h b (by simp [hb])) i j (by simpa using hi) hj
theorem rqC_snoc (q : List (RC × Value)) (r : RC) (u : Value) : rqC (q ++ [(r, u)]) = rqC q ++ rcC r u := by unfold rqC; simp
theorem rqOk.below {w w' : World} {q : List (RC × Value)} (h : rqOk w q) (hb : Below w.heap.size w w') : rqOk w' q := fun x hx => ⟨(h x hx).1, (h x hx).2.1.below hb, (h x hx).2.2.below hb⟩
/-- A slice of one's own that holds them. -/
def RQ (base : Nat) (w : World) (v : Value) (q : List (RC × Value)) : Prop := w.ownsRow base 62 19 v q.length (rqC q) ∧ rqOk w q
theorem RQ.below {base : Nat} {w w' : World} {v : Value} {q : List (RC × Value)} (h : RQ base w v q) (hb : Below w.heap.size w w') : RQ base w' v q := ⟨own_below8 h.1 hb, h.2.below hb⟩
theorem RQ.rcs {base : Nat} {w : World} {v : Value} {q : List (RC × Value)} (h : RQ base w v q) : Rcs w v (q.map Prod.fst) := by
  obtain ⟨⟨h1, h2 | ⟨g, cap, cur, rfl, h3, h4, h5, h6, h7, h8⟩⟩, hok⟩ := h
  · obtain ⟨rfl, h2⟩ := h2
    have : q = [] := List.eq_nil_of_length_eq_zero h2
    subst this
    exact Rcs.nil w
  · refine ⟨some ⟨g, 0, none⟩, cap, by simp, by simpa using h5, h6, fun hn => ⟨g, 0, rfl, fun i hi => ?_⟩⟩
    have hi' : i < q.length := by simpa using hi
    have hob : ObjAt w g cur 62 := h4
    have hx := hok q[i] (List.getElem_mem hi')
    rw [List.getElem_map]
    refine ⟨hx.1, (Array.getElem?_eq_some_iff.1 h4).1, q[i].2, ?_, hx.2.1⟩
    have hl := rcC_length hx.1 q[i].2
    have hr : w.rangeAt g (0 + i * 19) (rcC q[i].1 q[i].2) := fun j u hu => by
      have hj : j < 19 := by
        have := (List.getElem?_eq_some_iff.1 hu).1
        rw [hl] at this
        exact this
      rw [ObjAt.cell hob, ← Array.getElem?_toList]
      have e1 := rqC_get hok i j hi' hj
      rw [hu, ← h8, List.getElem?_take] at e1
      rw [Nat.zero_add]
      split at e1
      · exact e1
      · cases e1
    have := row?_of hr
    rw [hl] at this
    exact this
theorem info_rec : (Tryz.prog.info? 62).map (fun i => (i.zero, i.size, i.bytes)) = some (some (.agg #[.int .i64 0, .bool false, .int .u8 0, .int .u8 0, .int .u8 0, .int .u8 0, .int .u8 0, .int .u8 0, .int .u8 0, .int .u8 0, .int .u8 0, .int .u8 0, .int .u8 0, .int .u8 0, .int .u8 0, .int .u8 0, .int .u8 0, .int .u8 0, .slice none 0 0]), 19, 56) := by kernel_rfl
/-- A slice literal of one record, as one step. -/
noncomputable def rcsLit (p : Array (Nat × Value)) : Sem Value := Instr.buildSlice 26 1 p
theorem rcsLit_eq (p : Array (Nat × Value)) : Instr.buildSlice 26 1 p = rcsLit p := rfl
theorem rcsLit_run (r : RC) (ho : adOk r.g) (p : Option Addr) (n c : Nat) (w : World) : (rcsLit #[(0, .agg (rcC r (.slice p n c)).toArray)]).run Tryz.prog w = .ok (.slice (some ⟨w.heap.size, 0, none⟩) 1 1) (w.alloc (.cells (rcC r (.slice p n c)).toArray 62)) := by
  obtain ⟨i0, hi0, hz0, hz1, hz2⟩ := info_parts info_rec
  obtain ⟨k, g, src⟩ := r
  obtain ⟨v, l⟩ := g
  obtain ⟨b0, b1, b2, b3, b4, b5, b6, b7, b8, b9, ba, bb, bc, bd, be, bf, e⟩ := list16 (show l.length = 16 from ho)
  subst e
  refine run_buildSlice w 26 62 1 _ _ i0 _ Tryz.underlying26 hi0 hz0 (by rw [hz1]; decide) (by rw [hz1]; decide) ?_
  rw [hz1]
  kernel_rfl
/-- A record built of its parts. -/
theorem bldr_rec (k : Int) (a : AD) (ho : adOk a) (src : List AD) (p : Option Addr) (n c : Nat) (w : World) : (aggBuild 62 #[(0, .int .i64 k), (1, .agg (adC a).toArray), (2, .slice p n c)]).run Tryz.prog w = .ok (.agg (rcC ⟨k, a, src⟩ (.slice p n c)).toArray) w := by
  obtain ⟨v, l⟩ := a
  obtain ⟨b0, b1, b2, b3, b4, b5, b6, b7, b8, b9, ba, bb, bc, bd, be, bf, e⟩ := list16 (show l.length = 16 from ho)
  subst e
  exact bld_run _ _ _ (by kernel_rfl) _
/-- An append to the row leaves the addresses alone: they lie in blocks of another type. -/
theorem Ads.grown {w w' : World} {row : Option Nat} {u : Value} {l : List AD} (h : Ads w u l) (hg : w.grownBy w' row) (hn : ∀ b o n c, u = .slice (some ⟨b, o, none⟩) n c → some b ≠ row) : Ads w' u l := by
  obtain ⟨p, cap, h1, h2, h3, h4, h5⟩ := h
  refine ⟨p, cap, h1, h2, h3, h4, fun hne => ?_⟩
  obtain ⟨b, o, e1, e2, e3⟩ := h5 hne
  have hb := hn b o l.length cap (by rw [h1, e1])
  refine ⟨b, o, e1, Nat.lt_of_lt_of_le e2 hg.size, fun i hi => ?_⟩
  obtain ⟨r1, r2⟩ := rangeAt_of_row? (e3 i hi)
  have hr : w'.rangeAt b (o + i * 17) (adC l[i]) := fun j v hv => by
    rw [hg.cell_far ⟨b, o + i * 17 + j, none⟩ e2 hb]
    exact r1 j v hv
  have := row?_of hr
  rw [r2] at this
  exact this
theorem AdT.grown {w w' : World} {row : Option Nat} {u : Value} (h : AdT w u) (hg : w.grownBy w' row) (hn : ∀ b o n c, u = .slice (some ⟨b, o, none⟩) n c → some b ≠ row) : AdT w' u := fun b o n c e => by
  obtain ⟨h1, cur, fz, h2⟩ := h b o n c e
  exact ⟨Nat.lt_of_lt_of_le h1 hg.size, cur, fz, (hg.block b h1 (hn b o n c e)).trans h2⟩
theorem AdT.far {w : World} {base n : Nat} {v u : Value} {xs : List Value} (h : AdT w u) (hown : w.ownsRow base 62 19 v n xs) : ∀ b o n c, u = .slice (some ⟨b, o, none⟩) n c → some b ≠ v.ownBlock := fun b o n c e => by
  obtain ⟨h1, cur, fz, h2⟩ := h b o n c e
  obtain ⟨_, h3 | ⟨g, cap, cur', rfl, _, h4, _⟩⟩ := hown
  · rw [h3.1]; simp [Value.ownBlock]
  · intro hb
    simp only [Value.ownBlock, Option.some.injEq] at hb
    subst hb
    rw [h2] at h4
    simp at h4
theorem rqOk.grown {w w' : World} {base n : Nat} {v : Value} {xs : List Value} {q : List (RC × Value)} (h : rqOk w q) (hown : w.ownsRow base 62 19 v n xs) (hg : w.grownBy w' v.ownBlock) : rqOk w' q := fun x hx => by
  obtain ⟨h1, h2, h3⟩ := h x hx
  exact ⟨h1, h2.grown hg (h3.far hown), h3.grown hg (h3.far hown)⟩
/-- One more. -/
theorem RQ.snoc {base : Nat} {w w' : World} {v v' : Value} {q : List (RC × Value)} {r : RC} {u : Value} (h : RQ base w v q) (hr : adOk r.g ∧ Ads w u r.src ∧ AdT w u) (hown : w'.ownsRow base 62 19 v' (q.length + 1) (rqC q ++ rcC r u)) (hg : w.grownBy w' v.ownBlock) : RQ base w' v' (q ++ [(r, u)]) := by
  refine ⟨by rw [rqC_snoc, List.length_append]; exact hown, ?_⟩
  intro x hx
  rcases List.mem_append.1 hx with h1 | h1
  · exact (h.2.grown h.1 hg) x h1
  · rw [List.mem_singleton] at h1
    subst h1
    exact ⟨hr.1, hr.2.1.grown hg (hr.2.2.far h.1), hr.2.2.grown hg (hr.2.2.far h.1)⟩
end Go.Proofs.YtgpccgcppbdlpaaGreat

/-
  A talk in memory that is filled field by field, beside the result's cell.
-/
namespace Go.Proofs.YtgpccgcppbdlpaaGreat
open Go.RowKit
set_option linter.unusedVariables false
set_option linter.unusedSimpArgs false
theorem ld_tk (a : Addr) : loadVar 28 a = aggLd 28 a := rfl
theorem st_tk (a : Addr) (v : Value) : storeVar 28 a v = aggSt 28 a v := rfl
theorem bld_tk (p : Array (Nat × Value)) : Instr.build 28 p = aggBuild 28 p := rfl
theorem ldr_tk (b o : Nat) (w : World) : (aggLd 28 ⟨b, o, none⟩).run Tryz.prog w = match row? w b o 26 with | some cs => .ok (.agg cs.toArray) w | none => aggLdSlow 28 b o w :=
  ld_run Tryz.underlying28 rfl (by kernel_rfl) b o w
theorem str_tk (b : Nat) (cs : Array Value) (w : World) : (aggSt 28 ⟨b, 0, none⟩ (.agg cs)).run Tryz.prog w = match free? w b 0 26 && fok cs 26 with | true => .ok () (aggW w b cs.toList) | false => aggStSlow 28 b 0 (.agg cs) w :=
  st_run (by kernel_rfl) b cs w
theorem tkC_one {t : TK} {us ur : Value} (h1 : us.oneCell' = true) (h2 : ur.oneCell' = true) : ∀ v ∈ tkC t us ur, v.oneCell' = true := by
  intro v hv
  unfold tkC at hv
  simp only [List.mem_cons, List.mem_append, List.not_mem_nil, or_false] at hv
  rcases hv with (rfl | rfl | rfl | rfl) | (hv | rfl | rfl | rfl | rfl | rfl)
  · rfl
  · rfl
  · rfl
  · rfl
  · exact addrC_one _ _ v hv
  · rfl
  · rfl
  · rfl
  · exact h1
  · exact h2
theorem fok_tk {t : TK} {us ur : Value} (h : adOk t.g) (h1 : us.oneCell' = true) (h2 : ur.oneCell' = true) : fok (tkC t us ur).toArray 26 = true := by
  have h3 : (tkC t us ur).toArray.all (·.oneCell') = true := all_oneCell_toArray (tkC_one h1 h2)
  simp only [fok, h3, Bool.and_true]
  simp [tkC_length h]
theorem Rcs.one {w : World} {v : Value} {l : List RC} (h : Rcs w v l) : v.oneCell' = true := by
  obtain ⟨p, cap, h1, _⟩ := h; rw [h1]; rfl
/-- A field behind the group. -/
theorem tkC_tail (t : TK) (us ur : Value) (h : adOk t.g) (j : Nat) (v : Value) : (tkC t us ur).set (21 + j) v = [.bool t.v6, .int .i64 t.ver, .int .i64 t.kind, .int .i64 t.resp] ++ (adC t.g ++ [.bool t.quiet, .int .i64 t.rob, .int .i64 t.every, us, ur].set j v) := by
  unfold tkC
  have hl := adC_length h
  rw [List.set_append_right _ _ (by simp; omega), List.set_append_right _ _ (by simp; omega)]
  simp only [List.length_cons, List.length_nil, hl]
  rw [show 21 + j - (0 + 1 + 1 + 1 + 1) - 17 = j by omega]
/-- Slices whose blocks are known to be of their own kind. -/
def AdsT (w : World) (v : Value) (l : List AD) : Prop := Ads w v l ∧ AdT w v
def RcT (w : World) (v : Value) (l : List RC) : Prop := ∃ base q, RQ base w v q ∧ q.map Prod.fst = l
theorem AdsT.below {w w' : World} {v : Value} {l : List AD} (h : AdsT w v l) (hb : Below w.heap.size w w') : AdsT w' v l := ⟨h.1.below hb, h.2.below hb⟩
theorem RcT.below {w w' : World} {v : Value} {l : List RC} (h : RcT w v l) (hb : Below w.heap.size w w') : RcT w' v l := by
  obtain ⟨base, q, h1, h2⟩ := h
  exact ⟨base, q, h1.below hb, h2⟩
theorem AdsT.nil (w : World) : AdsT w (.slice none 0 0) [] := ⟨Ads.nil w, fun b o n c e => by cases e⟩
theorem RcT.nil (w : World) : RcT w (.slice none 0 0) [] := ⟨0, [], ⟨⟨rfl, Or.inl ⟨rfl, rfl⟩⟩, fun x hx => by cases hx⟩, rfl⟩
theorem RcT.rcs {w : World} {v : Value} {l : List RC} (h : RcT w v l) : Rcs w v l := by
  obtain ⟨base, q, h1, rfl⟩ := h
  exact h1.rcs
theorem AdT.farT {w : World} {u : Value} {m : Nat} {L : Array Value} (h : AdT w u) (hm : ObjAt w m L 28) : ∀ b o n c, u = .slice (some ⟨b, o, none⟩) n c → some b ≠ some m := fun b o n c e => by
  obtain ⟨h1, cur, fz, h2⟩ := h b o n c e
  intro hb
  simp only [Option.some.injEq] at hb
  subst hb
  unfold ObjAt at hm
  rw [h2] at hm
  simp at hm
theorem AdsT.grown {w w' : World} {v : Value} {l : List AD} {m : Nat} {L : Array Value} (h : AdsT w v l) (hm : ObjAt w m L 28) (hg : w.grownBy w' (some m)) : AdsT w' v l := ⟨h.1.grown hg (h.2.farT hm), h.2.grown hg (h.2.farT hm)⟩
theorem own_grown {w w' : World} {base n m : Nat} {v : Value} {xs : List Value} {L : Array Value} (h : w.ownsRow base 62 19 v n xs) (hm : ObjAt w m L 28) (hg : w.grownBy w' (some m)) : w'.ownsRow base 62 19 v n xs := by
  obtain ⟨h1, h2 | ⟨g, cap, cur, e1, e2, e3, e4⟩⟩ := h
  · exact ⟨h1, .inl h2⟩
  · refine ⟨h1, .inr ⟨g, cap, cur, e1, e2, (hg.block g (Array.getElem?_eq_some_iff.1 e3).1 ?_).trans e3, e4⟩⟩
    intro hb
    simp only [Option.some.injEq] at hb
    subst hb
    unfold ObjAt at hm
    rw [e3] at hm
    simp at hm
theorem RcT.grown {w w' : World} {v : Value} {l : List RC} {m : Nat} {L : Array Value} (h : RcT w v l) (hm : ObjAt w m L 28) (hg : w.grownBy w' (some m)) : RcT w' v l := by
  obtain ⟨base, q, ⟨h1, h2⟩, h3⟩ := h
  refine ⟨base, q, ⟨own_grown h1 hm hg, fun x hx => ?_⟩, h3⟩
  obtain ⟨a, b, c⟩ := h2 x hx
  exact ⟨a, b.grown hg (c.farT hm), c.grown hg (c.farT hm)⟩
theorem setCells_grown (b : Nat) : ∀ (cs : List Value) (o : Nat) (w : World), w.grownBy (w.setCells b o cs) (some b)
  | [], _, w => ⟨rfl, rfl, rfl, Nat.le_refl _, fun _ _ _ => rfl⟩
  | v :: r, o, w => gtrans (gset w b o v) (setCells_grown b r (o + 1) _)
theorem aggW_grown (w : World) (b : Nat) (cs : List Value) : w.grownBy (aggW w b cs) (some b) := by rw [aggW_eq]; exact setCells_grown b cs 0 w
/-- The result's cell, a talk that is being filled, and one thing more. -/
structure QT (w W : World) (m : Nat) (t : TK) (us ur : Value) (p : Nat) (L : Array Value) (T : TypeId) : Prop where
  res : ObjAt W w.heap.size #[.bool false, .int .i64 0, .int .i64 0, .int .i64 0, .bool false, .int .u8 0, .int .u8 0, .int .u8 0, .int .u8 0, .int .u8 0, .int .u8 0, .int .u8 0, .int .u8 0, .int .u8 0, .int .u8 0, .int .u8 0, .int .u8 0, .int .u8 0, .int .u8 0, .int .u8 0, .int .u8 0, .bool false, .int .i64 0, .int .i64 0, .slice none 0 0, .slice none 0 0] 28
  tk : TkAt W m t us ur
  blw : Below w.heap.size w W
  lt : w.heap.size < m
  src : AdsT W us t.src
  rcs : RcT W ur t.rcs
  more : ObjAt W p L T
  ltp : w.heap.size < p
  ne : m ≠ p
theorem QT.below {w W W' : World} {m p : Nat} {t : TK} {us ur : Value} {L : Array Value} {T : TypeId} (h : QT w W m t us ur p L T) (hb : Below W.heap.size W W') : QT w W' m t us ur p L T :=
  ⟨h.res.below hb h.res.lt, h.tk.below hb, bstep h.blw hb, h.lt, h.src.below hb, h.rcs.below hb, h.more.below hb h.more.lt, h.ltp, h.ne⟩
theorem QT.free {w W : World} {m p : Nat} {t : TK} {us ur : Value} {L : Array Value} {T : TypeId} (h : QT w W m t us ur p L T) : free? W w.heap.size 0 26 = true := obj_free h.res (by simp)
theorem QT.fok {w W : World} {m p : Nat} {t : TK} {us ur : Value} {L : Array Value} {T : TypeId} (h : QT w W m t us ur p L T) : fok (tkC t us ur).toArray 26 = true := fok_tk h.tk.2 h.src.1.one h.rcs.rcs.one
/-- The talk becomes the result. -/
theorem QT.done {w W : World} {m p : Nat} {t : TK} {us ur : Value} {L : Array Value} {T : TypeId} (h : QT w W m t us ur p L T) :
    row? (aggW W w.heap.size (tkC t us ur)) w.heap.size 0 26 = some (tkC t us ur) ∧ Below w.heap.size w (aggW W w.heap.size (tkC t us ur)) ∧ AdsT (aggW W w.heap.size (tkC t us ur)) us t.src ∧ RcT (aggW W w.heap.size (tkC t us ur)) ur t.rcs :=
  ⟨aggW_row h.free (tkC_length h.tk.2 _ _), aggW_below h.blw (Nat.le_refl _) _, h.src.grown h.res (aggW_grown _ _ _), h.rcs.grown h.res (aggW_grown _ _ _)⟩
/-- A field is stored. -/
theorem QT.set {w W : World} {m p : Nat} {t t' : TK} {us ur us' ur' : Value} {L : Array Value} {T : TypeId} (h : QT w W m t us ur p L T) (j : Nat) (v : Value) (e : (tkC t us ur).set j v = tkC t' us' ur') (ho : adOk t'.g) (hs : AdsT W us' t'.src) (hr : RcT W ur' t'.rcs) :
    QT w (W.setCell ⟨m, j, none⟩ v) m t' us' ur' p L T := by
  have hlt := h.lt
  have h1 : ObjAt (W.setCell ⟨m, j, none⟩ v) m (tkC t' us' ur').toArray 28 := by
    have := ObjAt.set h.tk.1 j v
    rw [List.setIfInBounds_toArray, e] at this
    exact this
  exact ⟨h.res.other _ _ (by simp; omega), ⟨h1, ho⟩, h.blw.setCell (p := ⟨m, j, none⟩) (by simp; omega) v, h.lt, hs.grown h.tk.1 (gset W m j v), hr.grown h.tk.1 (gset W m j v), h.more.other _ _ (by simpa using h.ne.symm), h.ltp, h.ne⟩
/-- The whole talk is stored anew. -/
theorem QT.put {w W : World} {m p : Nat} {t t' : TK} {us ur us' ur' : Value} {L : Array Value} {T : TypeId} (h : QT w W m t us ur p L T) (ho : adOk t'.g) (hs : AdsT W us' t'.src) (hr : RcT W ur' t'.rcs) :
    QT w (aggW W m (tkC t' us' ur')) m t' us' ur' p L T := by
  have hlt := h.lt
  exact ⟨aggW_other h.res _ (by omega), ⟨aggW_obj h.tk.1 (by rw [tkC_length ho, tkC_length h.tk.2]) (tkC_one hs.1.one hr.rcs.one), ho⟩, aggW_below h.blw (by omega) _, h.lt, hs.grown h.tk.1 (aggW_grown _ _ _), hr.grown h.tk.1 (aggW_grown _ _ _), aggW_other h.more _ h.ne.symm, h.ltp, h.ne⟩
theorem QT.freem {w W : World} {m p : Nat} {t : TK} {us ur : Value} {L : Array Value} {T : TypeId} (h : QT w W m t us ur p L T) : free? W m 0 26 = true := obj_free h.tk.1 (by simp [tkC_length h.tk.2])
/-- What is read of it. -/
def QC (w W : World) (m : Nat) (t : TK) (us ur : Value) : Prop :=
  W.cell? ⟨m, 1, none⟩ = some (.int .i64 t.ver) ∧ W.cell? ⟨m, 2, none⟩ = some (.int .i64 t.kind) ∧ W.cell? ⟨m, 3, none⟩ = some (.int .i64 t.resp) ∧ row? W m 4 17 = some (adC t.g) ∧ row? W m 0 26 = some (tkC t us ur) ∧ free? W w.heap.size 0 26 = true ∧ free? W m 0 26 = true ∧
  W.cell? ⟨m, 21, none⟩ = some (.bool t.quiet) ∧ W.cell? ⟨m, 22, none⟩ = some (.int .i64 t.rob) ∧ W.cell? ⟨m, 23, none⟩ = some (.int .i64 t.every) ∧ W.cell? ⟨m, 24, none⟩ = some us ∧ W.cell? ⟨m, 25, none⟩ = some ur ∧ (∀ j, W.frozen? ⟨m, j, none⟩ = false)
theorem QT.cells {w W : World} {m p : Nat} {t : TK} {us ur : Value} {L : Array Value} {T : TypeId} (h : QT w W m t us ur p L T) : QC w W m t us ur :=
  ⟨h.tk.ver, h.tk.kind, h.tk.resp, h.tk.rg, h.tk.row, h.free, h.freem, h.tk.quiet, h.tk.rob, h.tk.every, h.tk.us, h.tk.ur, fun j => ObjAt.free h.tk.1 j⟩
/-- Fields by their places. -/
theorem tkC_ver (t : TK) (us ur : Value) (x : Int) : (tkC t us ur).set 1 (.int .i64 x) = tkC ⟨t.v6, x, t.kind, t.resp, t.g, t.quiet, t.rob, t.every, t.src, t.rcs⟩ us ur := rfl
theorem tkC_resp (t : TK) (us ur : Value) (x : Int) : (tkC t us ur).set 3 (.int .i64 x) = tkC ⟨t.v6, t.ver, t.kind, x, t.g, t.quiet, t.rob, t.every, t.src, t.rcs⟩ us ur := rfl
theorem tkC_quiet (t : TK) (us ur : Value) (h : adOk t.g) (x : Bool) : (tkC t us ur).set 21 (.bool x) = tkC ⟨t.v6, t.ver, t.kind, t.resp, t.g, x, t.rob, t.every, t.src, t.rcs⟩ us ur := tkC_tail t us ur h 0 _
theorem tkC_rob (t : TK) (us ur : Value) (h : adOk t.g) (x : Int) : (tkC t us ur).set 22 (.int .i64 x) = tkC ⟨t.v6, t.ver, t.kind, t.resp, t.g, t.quiet, x, t.every, t.src, t.rcs⟩ us ur := tkC_tail t us ur h 1 _
theorem tkC_every (t : TK) (us ur : Value) (h : adOk t.g) (x : Int) : (tkC t us ur).set 23 (.int .i64 x) = tkC ⟨t.v6, t.ver, t.kind, t.resp, t.g, t.quiet, t.rob, x, t.src, t.rcs⟩ us ur := tkC_tail t us ur h 2 _
theorem tkC_src (t : TK) (us ur : Value) (h : adOk t.g) (v : Value) (l : List AD) : (tkC t us ur).set 24 v = tkC ⟨t.v6, t.ver, t.kind, t.resp, t.g, t.quiet, t.rob, t.every, l, t.rcs⟩ v ur := tkC_tail t us ur h 3 _
theorem tkC_rcs (t : TK) (us ur : Value) (h : adOk t.g) (v : Value) (l : List RC) : (tkC t us ur).set 25 v = tkC ⟨t.v6, t.ver, t.kind, t.resp, t.g, t.quiet, t.rob, t.every, t.src, l⟩ us v := tkC_tail t us ur h 4 _
theorem bldr_tk0 (w : World) : (aggBuild 28 #[]).run Tryz.prog w = .ok (.agg (tkC zeroT (.slice none 0 0) (.slice none 0 0)).toArray) w := bld_run _ _ _ (by kernel_rfl) _
theorem z26_eq : #[.bool false, .int .i64 0, .int .i64 0, .int .i64 0, .bool false, .int .u8 0, .int .u8 0, .int .u8 0, .int .u8 0, .int .u8 0, .int .u8 0, .int .u8 0, .int .u8 0, .int .u8 0, .int .u8 0, .int .u8 0, .int .u8 0, .int .u8 0, .int .u8 0, .int .u8 0, .int .u8 0, .bool false, .int .i64 0, .int .i64 0, .slice none 0 0, .slice none 0 0] = (tkC zeroT (.slice none 0 0) (.slice none 0 0)).toArray := rfl
end Go.Proofs.YtgpccgcppbdlpaaGreat

