/-
  Rows of elements of any kind (C: an element's cells, n of them) in memory, read and owned; an append of a whole slice.
-/
import Derived.Test.YtiegeejbnplhdaaAgg
import Derived.Laws.AppendOwn
import Derived.Laws.AppendOwnNone
namespace Go.Proofs.Ytiegeejbnplhdaa
open Go.RowKit
set_option linter.unusedVariables false
set_option linter.unusedSimpArgs false
set_option linter.unusedSectionVars false

/-- How elements of a kind lie in memory. -/
structure Kind (α : Type) where
  C : α → List Value
  n : Nat
  pos : 0 < n
  len : ∀ a, (C a).length = n
  one : ∀ a, ∀ u ∈ C a, u.oneCell' = true
variable {α : Type}
def Kind.Cs (K : Kind α) (l : List α) : List Value := (l.map K.C).flatten
def Kind.At (K : Kind α) (w : World) (b o : Nat) (l : List α) : Prop := ∀ i (h : i < l.length), row? w b (o + i * K.n) K.n = some (K.C l[i])
def Vec (K : Kind α) (w : World) (v : Value) (l : List α) : Prop :=
  ∃ (p : Option Addr) (cap : Nat), v = .slice p l.length cap ∧ l.length ≤ cap ∧ cap ≤ maxLen ∧ (p = none → cap = 0) ∧
    (l ≠ [] → ∃ b o, p = some ⟨b, o, none⟩ ∧ b < w.heap.size ∧ K.At w b o l)
theorem Vec.below {K : Kind α} {w w' : World} {v : Value} {l : List α} (h : Vec K w v l) (hb : Below w.heap.size w w') : Vec K w' v l := by
  obtain ⟨p, cap, h1, h2, h3, h4, h5⟩ := h
  refine ⟨p, cap, h1, h2, h3, h4, fun hn => ?_⟩
  obtain ⟨b, o, e1, e2, e3⟩ := h5 hn
  exact ⟨b, o, e1, Nat.lt_of_lt_of_le e2 hb.size, fun i h => row?_below (e3 i h) e2 hb⟩
theorem Vec.nil (K : Kind α) (w : World) : Vec K w (.slice none 0 0) [] := ⟨none, 0, rfl, Nat.le_refl _, by unfold maxLen; omega, fun _ => rfl, fun h => absurd rfl h⟩
theorem Vec.len {K : Kind α} {w : World} {v : Value} {l : List α} (h : Vec K w v l) : ∃ p cap, v = .slice p l.length cap ∧ l.length ≤ cap ∧ cap ≤ maxLen ∧ (p = none → cap = 0) := by
  obtain ⟨p, cap, h1, h2, h3, h4, h5⟩ := h
  exact ⟨p, cap, h1, h2, h3, h4⟩
theorem Vec.parts {K : Kind α} {w : World} {v : Value} {l : List α} (h : Vec K w v l) (hn : l ≠ []) : ∃ b o cap, v = .slice (some ⟨b, o, none⟩) l.length cap ∧ l.length ≤ cap ∧ cap ≤ maxLen ∧ b < w.heap.size ∧ K.At w b o l := by
  obtain ⟨p, cap, h1, h2, h3, h4, h5⟩ := h
  obtain ⟨b, o, rfl, e2, e3⟩ := h5 hn
  exact ⟨b, o, cap, h1, h2, h3, e2, e3⟩
theorem Kind.At.below {K : Kind α} {w w' : World} {b o B : Nat} {l : List α} (h : K.At w b o l) (hB : b < B) (hb : Below B w w') : K.At w' b o l := fun i hi => row?_below (h i hi) hB hb
theorem Kind.Cs_append (K : Kind α) (l m : List α) : K.Cs (l ++ m) = K.Cs l ++ K.Cs m := by unfold Kind.Cs; simp
theorem Kind.Cs_cons (K : Kind α) (a : α) (m : List α) : K.Cs (a :: m) = K.C a ++ K.Cs m := by unfold Kind.Cs; simp
theorem Kind.Cs_one (K : Kind α) (a : α) : K.Cs [a] = K.C a := by unfold Kind.Cs; simp
theorem Kind.Cs_len (K : Kind α) : ∀ l : List α, (K.Cs l).length = l.length * K.n
  | [] => by simp [Kind.Cs]
  | a :: r => by rw [K.Cs_cons, List.length_append, K.len, K.Cs_len r, List.length_cons, Nat.add_mul]; omega
theorem Kind.Cs_ones (K : Kind α) (l : List α) : ∀ u ∈ K.Cs l, u.oneCell' = true := by
  intro u hu
  unfold Kind.Cs at hu
  simp only [List.mem_flatten, List.mem_map] at hu
  obtain ⟨c, ⟨a, _, rfl⟩, hu⟩ := hu
  exact K.one a u hu
/-- The cells of elements that lie in a row. -/
theorem Kind.At.cells {K : Kind α} {w : World} {b : Nat} : ∀ {l : List α} {o : Nat}, K.At w b o l → ∀ j u, (K.Cs l)[j]? = some u → w.cell? ⟨b, o + j, none⟩ = some u
  | [], _, _, j, u, h => by simp [Kind.Cs] at h
  | a :: r, o, hA, j, u, h => by
    have l1 := K.len a
    rw [K.Cs_cons] at h
    by_cases hj : j < K.n
    · rw [List.getElem?_append_left (by omega)] at h
      have hr := hA 0 (by simp)
      simp only [List.getElem_cons_zero, Nat.zero_mul, Nat.add_zero] at hr
      exact (rangeAt_of_row? hr).1 j u h
    · rw [List.getElem?_append_right (by omega), l1] at h
      have hA2 : K.At w b (o + K.n) r := fun i hi => by
        have := hA (i + 1) (by simpa using hi)
        rw [show o + (i + 1) * K.n = o + K.n + i * K.n by rw [Nat.add_mul]; omega] at this
        simpa using this
      have := Kind.At.cells hA2 (j - K.n) u h
      rw [show o + K.n + (j - K.n) = o + j by omega] at this
      exact this
/-- The cells of an element that lies in a row. -/
theorem Kind.At.cell {K : Kind α} {w : World} {b o : Nat} {l : List α} (h : K.At w b o l) {i : Nat} (hi : i < l.length) (j : Nat) (u : Value) (hu : (K.C l[i])[j]? = some u) : w.cell? ⟨b, o + i * K.n + j, none⟩ = some u :=
  (rangeAt_of_row? (h i hi)).1 j u hu
theorem Kind.At.take {K : Kind α} {w : World} {b o : Nat} {l : List α} (h : K.At w b o l) (k : Nat) : K.At w b o (l.take k) := fun i hi => by
  rw [List.length_take] at hi
  rw [List.getElem_take]
  exact h i (by omega)
theorem Kind.At.drop {K : Kind α} {w : World} {b o : Nat} {l : List α} (h : K.At w b o l) (k : Nat) : K.At w b (o + k * K.n) (l.drop k) := fun i hi => by
  rw [List.length_drop] at hi
  rw [List.getElem_drop]
  have := h (k + i) (by omega)
  rw [show o + (k + i) * K.n = o + k * K.n + i * K.n by rw [Nat.add_mul]; omega] at this
  exact this
/-- What is appended: nothing, or elements that lie somewhere. -/
def Src (K : Kind α) (w : World) (sv : Value) (zs : List α) : Prop := (sv = .slice none 0 0 ∧ zs = []) ∨ ∃ ad c, sv = .slice (some ad) zs.length c ∧ ∀ j u, (K.Cs zs)[j]? = some u → w.cell? (ad.add j) = some u
/-- A slice that owns its block, or nil. -/
def OwnV (K : Kind α) (T : TypeId) (w : World) (base : Nat) (v : Value) (l : List α) : Prop := w.ownsRow base T K.n v l.length (K.Cs l)
theorem add_litV (b o j : Nat) : (⟨b, o, none⟩ : Addr).add j = ⟨b, o + j, none⟩ := by unfold Addr.add; split <;> simp_all
theorem Kind.At.src {K : Kind α} {w : World} {b o c : Nat} {l : List α} (h : K.At w b o l) : Src K w (.slice (some ⟨b, o, none⟩) l.length c) l :=
  Or.inr ⟨⟨b, o, none⟩, c, rfl, fun j u hu => by rw [add_litV]; exact h.cells j u hu⟩
theorem Vec.src {K : Kind α} {w : World} {v : Value} {l : List α} (h : Vec K w v l) : Src K w v l := by
  by_cases hn : l = []
  · subst hn
    obtain ⟨p, cap, h1, h2, h3, h4, h5⟩ := h
    cases p with
    | none => exact .inl ⟨by rw [h1, h4 rfl]; rfl, rfl⟩
    | some a => exact .inr ⟨a, cap, h1, fun j u hu => by simp [Kind.Cs] at hu⟩
  · obtain ⟨b, o, cap, rfl, _, _, _, hA⟩ := h.parts hn
    exact hA.src
theorem src_takeV {K : Kind α} {W : World} {b o k c : Nat} {l : List α} (h : K.At W b o l) (hk : k ≤ l.length) : Src K W (.slice (some ⟨b, o, none⟩) k c) (l.take k) := by
  have := (h.take k).src (c := c)
  rwa [List.length_take, Nat.min_eq_left hk] at this
theorem src_dropV {K : Kind α} {W : World} {b o k n cap c : Nat} {l : List α} (h : K.At W b o l) (hn : n = l.length) (hk : k ≤ n) (hc : n ≤ cap) : Src K W (.slice (if cap = k then some ⟨b, o, none⟩ else some ⟨b, o + k * K.n, none⟩) (n - k) c) (l.drop k) := by
  have hl : (l.drop k).length = n - k := by rw [List.length_drop, hn]
  by_cases e : cap = k
  · rw [if_pos e]
    have h0 : l.drop k = [] := List.drop_of_length_le (by omega)
    exact Or.inr ⟨⟨b, o, none⟩, c, by rw [hl], fun j u hu => by rw [h0] at hu; simp [Kind.Cs] at hu⟩
  · rw [if_neg e]
    have := (h.drop k).src (c := c)
    rwa [hl] at this
theorem src_oneV {K : Kind α} {W : World} {m : Nat} {T : TypeId} {a : α} (h : ObjAt W m (K.C a).toArray T) : Src K W (.slice (some ⟨m, 0, none⟩) 1 1) [a] :=
  Or.inr ⟨⟨m, 0, none⟩, 1, rfl, fun j u hu => by
    rw [K.Cs_one] at hu
    rw [add_litV, h.cell, List.getElem?_toArray, Nat.zero_add]
    exact hu⟩
theorem OwnV.below {K : Kind α} {T : TypeId} {w w' : World} {base : Nat} {v : Value} {l : List α} (h : OwnV K T w base v l) (hb : Below w.heap.size w w') : OwnV K T w' base v l := by
  obtain ⟨h1, h2 | ⟨g, cap, cur, e1, e2, e3, e4⟩⟩ := h
  · exact ⟨h1, .inl h2⟩
  · exact ⟨h1, .inr ⟨g, cap, cur, e1, e2, (hb.block g (Array.getElem?_eq_some_iff.1 e3).1).trans e3, e4⟩⟩
theorem OwnV.mono {K : Kind α} {T : TypeId} {w : World} {base base' : Nat} {v : Value} {l : List α} (h : OwnV K T w base' v l) (hb : base ≤ base') : OwnV K T w base v l := by
  obtain ⟨h1, h2 | ⟨g, cap, cur, e1, e2, e3⟩⟩ := h
  · exact ⟨h1, .inl h2⟩
  · exact ⟨h1, .inr ⟨g, cap, cur, e1, Nat.le_trans hb e2, e3⟩⟩
theorem OwnV.ge {K : Kind α} {T : TypeId} {w : World} {base : Nat} {v : Value} {l : List α} (h : OwnV K T w base v l) : ∀ k, v.ownBlock = some k → base ≤ k ∧ k < w.heap.size := by
  obtain ⟨h1, h2 | ⟨g, cap, cur, e1, e2, e3, e4⟩⟩ := h
  · intro k hk; rw [h2.1] at hk; cases hk
  · intro k hk; rw [e1] at hk; cases hk; exact ⟨e2, (Array.getElem?_eq_some_iff.1 e3).1⟩
theorem OwnV.nil (K : Kind α) (T : TypeId) (w : World) (base : Nat) : OwnV K T w base (.slice none 0 0) [] := World.ownsRow_nil _ _ _ _
/-- An append of a whole slice to a slice of one's own. -/
theorem wp_appV {K : Kind α} {T TS : TypeId} {i0 : TypeInfo} {z : Value} {bytes : Nat} (hT : Try.prog.underlying TS = some (.slice T)) (hi0 : Try.prog.info? T = some i0) (hz0 : i0.zero = some z) (hz1 : i0.size = K.n) (hz2 : i0.bytes = bytes) (hzc : z.cells.size = K.n) (hbb : bytes ≤ 100)
    {w : World} {o : Oper} {a : Act} {Kt : Act → World → Prop} {Q : Exit → Act → World → Prop} (s x : Operand) (ho : o.op = .call { callee := .builtin .append, args := #[s, x], argTypes := #[TS, TS] })
    (base : Nat) (v : Value) (ys zs : List α) (sv : Value) (hs : a.eval s = v) (hown : OwnV K T w base v ys) (hx : a.eval x = sv) (hz : Src K w sv zs) (hn : ys.length + zs.length ≤ 1000000000) (hbase : base ≤ w.heap.size)
    (h : ∀ v' w', OwnV K T w' base v' (ys ++ zs) → w.grownBy w' v.ownBlock → Kt (a.put o.dst v') w') : o.wp Try.prog a w Kt Q := by
  rcases hz with ⟨rfl, rfl⟩ | ⟨ad, c, rfl, hc⟩
  · have hrun := run_append_owned_none (P := Try.prog) (w := w) base TS o.type T i0 K.n hT hi0 v _ _ hown
    unfold Oper.wp
    simp [execOp, ho, resolve, invoke, builtin, hs, hx, hrun, Result.andThen]
    exact h _ _ (by simpa using hown) ⟨rfl, rfl, rfl, Nat.le_refl _, fun _ _ _ => rfl⟩
  · refine wp_append_own w s x TS ho base T i0 z K.n bytes hT hi0 hz0 hz1 hz2 hzc K.pos v ys.length (K.Cs ys) hs hown ad zs.length c (K.Cs zs) hx (K.Cs_len zs) hc (K.Cs_ones zs) (by unfold maxLen; omega) (Nat.le_trans (Nat.mul_le_mul hn hbb) (by omega)) hbase ?_
    intro v' w' h1 h2 _
    exact h v' w' (by unfold OwnV; rw [List.length_append, K.Cs_append]; exact h1) h2
theorem Kind.Cs_get (K : Kind α) : ∀ {l : List α} (i j : Nat) (hi : i < l.length), j < K.n → (K.Cs l)[i * K.n + j]? = (K.C l[i])[j]?
  | a :: r, 0, j, hi, hj => by
    rw [K.Cs_cons, List.getElem?_append_left (by rw [K.len]; omega)]
    simp
  | a :: r, i + 1, j, hi, hj => by
    have e : (i + 1) * K.n + j = K.n + (i * K.n + j) := by rw [Nat.add_mul]; omega
    rw [K.Cs_cons, List.getElem?_append_right (by rw [K.len, e]; omega), K.len, e, Nat.add_sub_cancel_left]
    have := K.Cs_get (l := r) i j (by simpa using hi) hj
    simpa using this
/-- What a slice owns is read of it. -/
theorem OwnV.vec {K : Kind α} {T : TypeId} {w : World} {base : Nat} {v : Value} {l : List α} (h : OwnV K T w base v l) : Vec K w v l := by
  obtain ⟨h1, h2 | ⟨g, cap, cur, rfl, h3, h4, h5, h6, h7, h8⟩⟩ := h
  · obtain ⟨rfl, h2⟩ := h2
    have : l = [] := List.eq_nil_of_length_eq_zero h2
    subst this
    exact Vec.nil K w
  · refine ⟨some ⟨g, 0, none⟩, cap, rfl, h5, h6, fun e => (by cases e), fun hn => ⟨g, 0, rfl, (Array.getElem?_eq_some_iff.1 h4).1, fun i hi => ?_⟩⟩
    have hob : ObjAt w g cur T := h4
    have hr : w.rangeAt g (0 + i * K.n) (K.C l[i]) := fun j u hu => by
      have hj : j < K.n := by
        have := (List.getElem?_eq_some_iff.1 hu).1
        rw [K.len] at this
        exact this
      rw [ObjAt.cell hob, ← Array.getElem?_toList]
      have e1 := K.Cs_get i j hi hj
      rw [hu, ← h8, List.getElem?_take] at e1
      rw [Nat.zero_add]
      split at e1
      · exact e1
      · cases e1
    have := row?_of hr
    rw [K.len] at this
    exact this
end Go.Proofs.Ytiegeejbnplhdaa
