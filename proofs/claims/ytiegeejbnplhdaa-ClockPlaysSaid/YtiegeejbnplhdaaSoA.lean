/-
  A row of texts that is being sorted by the clock's order: the worlds on the way.
-/
import Derived.Test.YtiegeejbnplhdaaCkQ
import Derived.Shelf.SlSortCmp.QuietGrown
import Derived.Sort.LotA
import Derived.BigRegion
import Derived.Deep.LoopGhost
import Derived.Test.YtiegeejbnplhdaaSeQ
namespace Go.Proofs.Ytiegeejbnplhdaa
open Go.RowKit
set_option linter.unusedVariables false
set_option linter.unusedSimpArgs false

/-- What is sorted, and by which clock: block g, its first n cells of cap; the clock in block b, its map in bm, which reads as l. -/
structure SE where
  w0 : World
  g : Nat
  cap : Nat
  n : Nat
  b : Nat
  bm : Nat
  l : List EN
structure SE.Ok (E : SE) : Prop where
  ho : ObjAt E.w0 E.b #[.map (some E.bm)] 51
  hM : OwnM E.w0 E.bm E.l
  ck : CkOk E.l
  row : ∃ cur, E.w0.heap[E.g]? = some (.cells cur 9 (0, 0)) ∧ cur.size = E.cap
  nc : E.n ≤ E.cap
  nm : E.n < 4611686018427387904
def SE.sv (E : SE) : Value := .slice (some ⟨E.g, 0, none⟩) E.n E.cap
def SE.fv (E : SE) : Value := .func (.func 29) #[.pointer (some ⟨E.b, 0, none⟩)] #[]
def SE.lt (E : SE) (x y : List UInt8) : Bool := decide (cfE E.l x y < 0)
/-- A world on the way: the row holds d. -/
structure St (E : SE) (w : World) (d : Array (List UInt8)) : Prop where
  gr : E.w0.grownBy w (some E.g)
  row : ∃ cur, w.heap[E.g]? = some (.cells cur 9 (0, 0)) ∧ cur.size = E.cap ∧ ∀ i, i < E.n → cur[i]? = some (.string (Str d[i]!))
  sz : d.size = E.n
  kl : ∀ i, i < E.n → d[i]!.length ≤ maxLen
variable {E : SE} {w : World} {d : Array (List UInt8)}
theorem St.lt (h : St E w d) : E.g < w.heap.size := by obtain ⟨cur, h1, _⟩ := h.row; exact (Array.getElem?_eq_some_iff.1 h1).1
theorem St.c (h : St E w d) {i : Nat} (hi : i < E.n) : w.cell? ⟨E.g, i, none⟩ = some (.string (Str d[i]!)) := by
  obtain ⟨cur, h1, h2, h3⟩ := h.row
  rw [cell_of_row w E.g i cur _ _ h1]
  exact h3 i hi
theorem St.f (h : St E w d) (i : Nat) : w.frozen? ⟨E.g, i, none⟩ = false := by
  obtain ⟨cur, h1, h2, h3⟩ := h.row
  exact frozen_of_row w E.g i cur _ h1
theorem grow_grown (w : World) (k : Nat) (os : Array Obj) : w.grownBy (Sort.grow (w.drewN k) os) none :=
  ⟨rfl, rfl, rfl, by simp, fun j hj _ => Sort.heap_grow_old _ _ (by simpa using hj)⟩
theorem St.grown {w' : World} (h : St E w d) (hg : w.grownBy w' none) : St E w' d := by
  obtain ⟨cur, h1, h2, h3⟩ := h.row
  refine ⟨gtrans h.gr (hg.but _), ⟨cur, (hg.block E.g h.lt (by simp)).trans h1, h2, h3⟩, h.sz, h.kl⟩
theorem St.grow (h : St E w d) (k : Nat) (os : Array Obj) : St E (Sort.grow (w.drewN k) os) d := h.grown (grow_grown w k os)
theorem St.cmp (h : St E w d) (ok : E.Ok) (x y : List UInt8) (hx : x.length ≤ maxLen) (hy : y.length ≤ maxLen) (k : Nat) (os : Array Obj) :
    Calls Try.prog 29 #[.pointer (some ⟨E.b, 0, none⟩), .string (Str x), .string (Str y)] (Sort.grow (w.drewN k) os) fun e w' => e = .returned (.int .i64 (cfE E.l x y)) ∧ ∃ q os', w' = Sort.grow ((Sort.grow (w.drewN k) os).drewN q) os' := by
  have hg := (h.grow k os).gr
  obtain ⟨cur, hr, _⟩ := ok.row
  have h1 : some E.b ≠ some E.g := fun e => by
    have hb : E.w0.heap[E.b]? = some (.cells #[.map (some E.bm)] 51 (0, 0)) := ok.ho
    rw [show E.b = E.g by simpa using e, hr] at hb
    simp only [Option.some.injEq, Obj.cells.injEq] at hb
    exact absurd hb.2.1 (by decide)
  have h2 : some E.bm ≠ some E.g := fun e => by
    obtain ⟨es, c, hb⟩ := ok.hM.isMap
    rw [show E.bm = E.g by simpa using e, hr] at hb; cases hb
  exact order_any E.b E.bm E.l x y _ (ok.ho.grown hg h1) (ok.hM.same (hg.block E.bm ok.hM.lt h2)) ok.ck hx hy
theorem St.swap (h : St E w d) {i j : Nat} (hi : i < E.n) (hj : j < E.n) :
    St E ((w.setCell ⟨E.g, i, none⟩ (.string (Str d[j]!))).setCell ⟨E.g, j, none⟩ (.string (Str d[i]!))).drew (Sort.swp d i j) := by
  obtain ⟨cur, h1, h2, h3⟩ := h.row
  have e1 : ∀ k, (Sort.swp d i j)[k]! = if k = j then d[i]! else if k = i then d[j]! else d[k]! := fun k => by
    have hi' : i < d.size := by rw [h.sz]; exact hi
    have hj' : j < d.size := by rw [h.sz]; exact hj
    by_cases a : k = j
    · subst a; rw [if_pos rfl, Sort.swp_right d i k hj']
    · rw [if_neg a]
      by_cases b : k = i
      · subst b; rw [if_pos rfl, Sort.swp_left d k j hi' a]
      · rw [if_neg b, Sort.swp_other d i j k b a]
  refine ⟨gdrew (gset' (gset' h.gr i _) j _), ⟨_, heap_setCell_same _ _ _ _ _ _ (heap_setCell_same _ _ _ _ _ _ h1), by simp [h2], fun k hk => ?_⟩, by rw [Sort.size_swp, h.sz], fun k hk => ?_⟩
  · rw [e1 k]
    simp only [Array.getElem?_setIfInBounds, Array.size_setIfInBounds]
    have hk1 := (Array.getElem?_eq_some_iff.1 (h3 k hk)).1
    by_cases a : j = k
    · subst a; simp [hk1]
    · have a2 : ¬ k = j := fun e => a e.symm
      by_cases b : i = k
      · subst b; simp [hk1, a, a2]
      · have b2 : ¬ k = i := fun e => b e.symm
        simp only [a, b, a2, b2, if_false]
        exact h3 k hk
  · rw [e1 k]
    split
    · exact h.kl i hi
    · split
      · exact h.kl j hj
      · exact h.kl k hk
/-- Behind the first store the second place still holds something. -/
theorem St.c2 (h : St E w d) {i j : Nat} (hi : i < E.n) (hj : j < E.n) (v : Value) : ∃ u, (w.setCell ⟨E.g, i, none⟩ v).cell? ⟨E.g, j, none⟩ = some u := by
  obtain ⟨cur, h1, h2, h3⟩ := h.row
  have := heap_setCell_same w E.g i cur _ v h1
  rw [cell_of_row _ E.g j _ _ _ this]
  have hj1 := (Array.getElem?_eq_some_iff.1 (h3 j hj)).1
  exact ⟨_, Array.getElem?_eq_getElem (by simpa using hj1)⟩
theorem St.below {w' : World} (h : St E w d) (hb : Below w.heap.size w w') : St E w' d := h.grown (grownBelow hb)
/-- The worlds in which the row holds d, as a class by a letter. -/
theorem St.cls (h : St E w d) : ∃ S : World → Prop, Hid (S w.drew) ∧ Hid (∀ W, S W → St E W d) ∧ Hid (∀ W W', S W → Below W.heap.size W W' → S W') :=
  ⟨fun W => St E W d, Lib.hid (h.grown ⟨rfl, rfl, rfl, Nat.le_refl _, fun _ _ _ => rfl⟩), Lib.hid (fun _ h => h), Lib.hid (fun _ _ h hb => h.below hb)⟩
theorem St.cmpB (h : St E w d) (ok : E.Ok) (x y : List UInt8) (hx : x.length ≤ maxLen) (hy : y.length ≤ maxLen) :
    Calls Try.prog 29 #[.pointer (some ⟨E.b, 0, none⟩), .string (Str x), .string (Str y)] w fun e w' => e = .returned (.int .i64 (cfE E.l x y)) ∧ Below w.heap.size w w' := by
  have h0 := h.cmp ok x y hx hy 0 #[]
  rw [Sort.grow_empty] at h0
  exact h0.mono fun e w' ⟨he, q, os, hw⟩ => ⟨he, by
    rw [hw]
    exact ⟨rfl, rfl, rfl, by simp, fun j hj => Sort.heap_grow_old _ _ (by simpa using hj)⟩⟩
theorem swoE (E : SE) : Sort.SWO E.lt := by
  have hl : ∀ x y, E.lt x y = ltE (x, tOf E.l x) (y, tOf E.l y) := fun x y => by
    unfold SE.lt cfE
    generalize tOf E.l x = s
    generalize tOf E.l y = t
    unfold orI cmpI cmpK ltE
    by_cases a : s < t
    · simp [a]
    · by_cases b : t < s
      · have c : ¬ s = t := by omega
        simp [a, b, c]
      · have c : s = t := by omega
        simp only [a, b, c, if_false, if_true, decide_false, Bool.false_or, decide_true, Bool.true_and]
        cases e : ltK x y with
        | true => simp
        | false => cases e2 : ltK y x <;> simp
  refine ⟨fun x => ?_, fun x y z h1 h2 => ?_, fun x y z h1 h2 => ?_⟩
  · rw [hl]; exact ltE_ord.irr _
  · rw [hl] at *; exact ltE_ord.trans _ _ _ h1 h2
  · rw [hl] at *
    have o := ltE_ord
    cases h : ltE (x, tOf E.l x) (z, tOf E.l z) with
    | false => rfl
    | true =>
      exfalso
      by_cases e : (y, tOf E.l y) = (z, tOf E.l z)
      · rw [e, h] at h1; cases h1
      · rcases o.tot _ _ rfl rfl e with k | k
        · rw [k] at h2; cases h2
        · have := o.trans _ _ _ h k
          rw [this] at h1; cases h1
end Go.Proofs.Ytiegeejbnplhdaa
