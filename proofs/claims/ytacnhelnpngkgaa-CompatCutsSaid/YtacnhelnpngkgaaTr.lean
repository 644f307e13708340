/-
  A row of records of one's own: a slice that is appended to, a literal of one record, a record built.
-/
import Derived.Test.YtacnhelnpngkgaaTkJ
namespace Go.Proofs.Ytacnhelnpngkgaa
open Go.RowKit
set_option linter.unusedVariables false
set_option linter.unusedSimpArgs false
/-- Records with their slices' values, as cells. -/
def rqC (q : List (RC × Value)) : List Value := (q.map fun x => rcC x.1 x.2).flatten
def rqOk (w : World) (q : List (RC × Value)) : Prop := ∀ x ∈ q, adOk x.1.g ∧ Ads w x.2 x.1.src ∧ AdT w x.2
theorem rqC_length {w : World} {q : List (RC × Value)} (h : rqOk w q) : (rqC q).length = q.length * 19 := by
  induction q with
  | nil => rfl
  | cons a r ih =>
    have h1 := rcC_length (h a (by simp)).1 a.2
    have h2 := ih (fun b hb => h b (by simp [hb]))
    unfold rqC at h2 ⊢
    simp at h2 ⊢
    omega
theorem rqC_get {w : World} {q : List (RC × Value)} (h : rqOk w q) : ∀ (i j : Nat) (hi : i < q.length), j < 19 → (rqC q)[i * 19 + j]? = (rcC q[i].1 q[i].2)[j]? := by
  induction q with
  | nil => intro i j hi; exact absurd hi (by simp)
  | cons a r ih =>
    intro i j hi hj
    have h1 := rcC_length (h a (by simp)).1 a.2
    have e : rqC (a :: r) = rcC a.1 a.2 ++ rqC r := by simp [rqC]
    rw [e]
    cases i with
    | zero => rw [Nat.zero_mul, Nat.zero_add, List.getElem?_append_left (by omega)]; rfl
    | succ i =>
      rw [List.getElem?_append_right (by omega), h1, show (i + 1) * 19 + j - 19 = i * 19 + j by omega]
      exact ih (fun b hb => h b (by simp [hb])) i j (by simpa using hi) hj
theorem rqC_snoc (q : List (RC × Value)) (r : RC) (u : Value) : rqC (q ++ [(r, u)]) = rqC q ++ rcC r u := by unfold rqC; simp
theorem rqOk.below {w w' : World} {q : List (RC × Value)} (h : rqOk w q) (hb : Below w.heap.size w w') : rqOk w' q := fun x hx => ⟨(h x hx).1, (h x hx).2.1.below hb, (h x hx).2.2.below hb⟩
/-- A slice of one's own that holds them. -/
def RQ (base : Nat) (w : World) (v : Value) (q : List (RC × Value)) : Prop := w.ownsRow base 40 19 v q.length (rqC q) ∧ rqOk w q
theorem RQ.below {base : Nat} {w w' : World} {v : Value} {q : List (RC × Value)} (h : RQ base w v q) (hb : Below w.heap.size w w') : RQ base w' v q := ⟨own_below8 h.1 hb, h.2.below hb⟩
theorem RQ.rcs {base : Nat} {w : World} {v : Value} {q : List (RC × Value)} (h : RQ base w v q) : Rcs w v (q.map Prod.fst) := by
  obtain ⟨⟨h1, h2 | ⟨g, cap, cur, rfl, h3, h4, h5, h6, h7, h8⟩⟩, hok⟩ := h
  · obtain ⟨rfl, h2⟩ := h2
    have : q = [] := List.eq_nil_of_length_eq_zero h2
    subst this
    exact Rcs.nil w
  · refine ⟨some ⟨g, 0, none⟩, cap, by simp, by simpa using h5, h6, fun hn => ⟨g, 0, rfl, fun i hi => ?_⟩⟩
    have hi' : i < q.length := by simpa using hi
    have hob : ObjAt w g cur 40 := h4
    have hx := hok q[i] (List.getElem_mem hi')
    rw [List.getElem_map]
    refine ⟨hx.1, (Array.getElem?_eq_some_iff.1 h4).1, q[i].2, ?_, hx.2.1⟩
    have hl := rcC_length hx.1 q[i].2
    have hr : w.rangeAt g (0 + i * 19) (rcC q[i].1 q[i].2) := fun j u hu => by
      have hj : j < 19 := by
        have := (List.getElem?_eq_some_iff.1 hu).1
        rw [hl] at this
        exact this
      rw [ObjAt.cell hob, ← Array.getElem?_toList]
      have e1 := rqC_get hok i j hi' hj
      rw [hu, ← h8, List.getElem?_take] at e1
      rw [Nat.zero_add]
      split at e1
      · exact e1
      · cases e1
    have := row?_of hr
    rw [hl] at this
    exact this
theorem info_rec : (Try.prog.info? 40).map (fun i => (i.zero, i.size, i.bytes)) = some (some (.agg #[.int .i64 0, .bool false, .int .u8 0, .int .u8 0, .int .u8 0, .int .u8 0, .int .u8 0, .int .u8 0, .int .u8 0, .int .u8 0, .int .u8 0, .int .u8 0, .int .u8 0, .int .u8 0, .int .u8 0, .int .u8 0, .int .u8 0, .int .u8 0, .slice none 0 0]), 19, 56) := by kernel_rfl
/-- A slice literal of one record, as one step. -/
noncomputable def rcsLit (p : Array (Nat × Value)) : Sem Value := Instr.buildSlice 26 1 p
theorem rcsLit_eq (p : Array (Nat × Value)) : Instr.buildSlice 26 1 p = rcsLit p := rfl
theorem rcsLit_run (r : RC) (ho : adOk r.g) (p : Option Addr) (n c : Nat) (w : World) : (rcsLit #[(0, .agg (rcC r (.slice p n c)).toArray)]).run Try.prog w = .ok (.slice (some ⟨w.heap.size, 0, none⟩) 1 1) (w.alloc (.cells (rcC r (.slice p n c)).toArray 40)) := by
  obtain ⟨i0, hi0, hz0, hz1, hz2⟩ := info_parts info_rec
  obtain ⟨k, g, src⟩ := r
  obtain ⟨v, l⟩ := g
  obtain ⟨b0, b1, b2, b3, b4, b5, b6, b7, b8, b9, ba, bb, bc, bd, be, bf, e⟩ := list16 (show l.length = 16 from ho)
  subst e
  refine run_buildSlice w 26 40 1 _ _ i0 _ Try.underlying26 hi0 hz0 (by rw [hz1]; decide) (by rw [hz1]; decide) ?_
  rw [hz1]
  kernel_rfl
/-- A record built of its parts. -/
theorem bldr_rec (k : Int) (a : AD) (ho : adOk a) (src : List AD) (p : Option Addr) (n c : Nat) (w : World) : (aggBuild 40 #[(0, .int .i64 k), (1, .agg (adC a).toArray), (2, .slice p n c)]).run Try.prog w = .ok (.agg (rcC ⟨k, a, src⟩ (.slice p n c)).toArray) w := by
  obtain ⟨v, l⟩ := a
  obtain ⟨b0, b1, b2, b3, b4, b5, b6, b7, b8, b9, ba, bb, bc, bd, be, bf, e⟩ := list16 (show l.length = 16 from ho)
  subst e
  exact bld_run _ _ _ (by kernel_rfl) _
/-- An append to the row leaves the addresses alone: they lie in blocks of another type. -/
theorem Ads.grown {w w' : World} {row : Option Nat} {u : Value} {l : List AD} (h : Ads w u l) (hg : w.grownBy w' row) (hn : ∀ b o n c, u = .slice (some ⟨b, o, none⟩) n c → some b ≠ row) : Ads w' u l := by
  obtain ⟨p, cap, h1, h2, h3, h4, h5⟩ := h
  refine ⟨p, cap, h1, h2, h3, h4, fun hne => ?_⟩
  obtain ⟨b, o, e1, e2, e3⟩ := h5 hne
  have hb := hn b o l.length cap (by rw [h1, e1])
  refine ⟨b, o, e1, Nat.lt_of_lt_of_le e2 hg.size, fun i hi => ?_⟩
  obtain ⟨r1, r2⟩ := rangeAt_of_row? (e3 i hi)
  have hr : w'.rangeAt b (o + i * 17) (adC l[i]) := fun j v hv => by
    rw [hg.cell_far ⟨b, o + i * 17 + j, none⟩ e2 hb]
    exact r1 j v hv
  have := row?_of hr
  rw [r2] at this
  exact this
theorem AdT.grown {w w' : World} {row : Option Nat} {u : Value} (h : AdT w u) (hg : w.grownBy w' row) (hn : ∀ b o n c, u = .slice (some ⟨b, o, none⟩) n c → some b ≠ row) : AdT w' u := fun b o n c e => by
  obtain ⟨h1, cur, fz, h2⟩ := h b o n c e
  exact ⟨Nat.lt_of_lt_of_le h1 hg.size, cur, fz, (hg.block b h1 (hn b o n c e)).trans h2⟩
theorem AdT.far {w : World} {base n : Nat} {v u : Value} {xs : List Value} (h : AdT w u) (hown : w.ownsRow base 40 19 v n xs) : ∀ b o n c, u = .slice (some ⟨b, o, none⟩) n c → some b ≠ v.ownBlock := fun b o n c e => by
  obtain ⟨h1, cur, fz, h2⟩ := h b o n c e
  obtain ⟨_, h3 | ⟨g, cap, cur', rfl, _, h4, _⟩⟩ := hown
  · rw [h3.1]; simp [Value.ownBlock]
  · intro hb
    simp only [Value.ownBlock, Option.some.injEq] at hb
    subst hb
    rw [h2] at h4
    simp at h4
theorem rqOk.grown {w w' : World} {base n : Nat} {v : Value} {xs : List Value} {q : List (RC × Value)} (h : rqOk w q) (hown : w.ownsRow base 40 19 v n xs) (hg : w.grownBy w' v.ownBlock) : rqOk w' q := fun x hx => by
  obtain ⟨h1, h2, h3⟩ := h x hx
  exact ⟨h1, h2.grown hg (h3.far hown), h3.grown hg (h3.far hown)⟩
/-- One more. -/
theorem RQ.snoc {base : Nat} {w w' : World} {v v' : Value} {q : List (RC × Value)} {r : RC} {u : Value} (h : RQ base w v q) (hr : adOk r.g ∧ Ads w u r.src ∧ AdT w u) (hown : w'.ownsRow base 40 19 v' (q.length + 1) (rqC q ++ rcC r u)) (hg : w.grownBy w' v.ownBlock) : RQ base w' v' (q ++ [(r, u)]) := by
  refine ⟨by rw [rqC_snoc, List.length_append]; exact hown, ?_⟩
  intro x hx
  rcases List.mem_append.1 hx with h1 | h1
  · exact (h.2.grown h.1 hg) x h1
  · rw [List.mem_singleton] at h1
    subst h1
    exact ⟨hr.1, hr.2.1.grown hg (hr.2.2.far h.1), hr.2.2.grown hg (hr.2.2.far h.1)⟩
end Go.Proofs.Ytacnhelnpngkgaa
