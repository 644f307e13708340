/-
  A range over a function value that keeps what it has in a block of its own: one law of the walk.
-/
import Derived.Test.YtalnfjnfcloonaaGreatDoorBase
import Derived.RangeFuncNested
import Derived.RangeFuncBound
import Derived.RangeFuncCalls
import Derived.RangeFuncLeaves
import Derived.WalkKit
import Derived.OwnWalkIn
import Derived.TacticsInMore
import Derived.LoopNIn
import Derived.LoopIn
namespace Go.Proofs.YtalnfjnfcloonaaGreatDoor
open Go.RowKit
set_option linter.unusedVariables false

/-- What is known bears the turns of one block, and new blocks. -/
def Bears {β : Type} (Bs : Nat) (J : β → World → Prop) : Prop := ∀ s W W', J s W → W.grownBy W' (some Bs) → J s W'
/-- Three blocks lie as they lay. -/
def Keep3 (b1 b2 b3 : Nat) (W W' : World) : Prop := W'.heap[b1]? = W.heap[b1]? ∧ W'.heap[b2]? = W.heap[b2]? ∧ W'.heap[b3]? = W.heap[b3]?
/-- A call of function g with a round's value gives the texts xs, one by one, and turns no block but b1. -/
def SeqBox (F : Fence) (n : Nat) (P : Program) (g : Nat) (lb : Array Value) (b1 b2 b3 : Nat) (xs : List (List UInt8)) (w0 : World) : Prop :=
  ∀ (l : Nat) (J Jx : List (List UInt8) → World → Prop) (W : World), Keep3 b1 b2 b3 w0 W → Bears b1 J → Bears b1 Jx →
    (∀ pre x W1, J pre W1 → pre ++ [x] <+: xs → YieldAt F (n - 1) P l #[.string (Str x)] W1 fun e W' =>
      (e = .returned (.bool true) ∧ J (pre ++ [x]) W' ∧ Keep3 b1 b2 b3 W1 W') ∨ (e = .returned (.bool false) ∧ Jx (pre ++ [x]) W')) →
    J [] W → CallsIn F n P g (#[.func (.yield l) #[] #[]] ++ lb) W fun e W' => (∃ v, e = .returned v) ∧ (J xs W' ∨ ∃ pre, pre <+: xs ∧ Jx pre W')
/-- How a round may end. -/
def boxPost (b1 b2 b3 : Nat) (I : List (List UInt8) → World → Prop) (X : List (List UInt8) → World → Prop) (xs : List (List UInt8)) (W : World) : Exit → Act → World → Prop
  | .normal, _, W' => KeepsOthers W W' ∧ Keep3 b1 b2 b3 W W' ∧ I xs W'
  | .ret, _, W' => KeepsOthers W W' ∧ X xs W'
  | _, _, _ => False
section
variable {F : Fence} {n : Nat} {P : Program}
theorem wpIn_rangeFunc_box {g : Operand} {ps : Array Tmp} {assign body : Code} {Q : Exit → Act → World → Prop} {a : Act} {w : World} (hro : F.round = none) (h1 : 1 ≤ n) {gf : Nat} {lb : Array Value}
    (hg : a.eval g = .func (.func gf) #[] lb) (hFg : F.fn gf) (eg : ∀ args w, (callFunc gf args).run P w = .ok (.enter gf args) w) {b1 b2 b3 : Nat} (hb1 : b1 < w.heap.size) (hb2 : b2 < w.heap.size) (hb3 : b3 < w.heap.size)
    {xs : List (List UInt8)} (hseq : SeqBox F (n - 1) P gf lb b1 b2 b3 xs w) (hps : ps.size = 1)
    (I X : List (List UInt8) → World → Prop) (hI : ∀ s W W' row, I s W → W.grownBy W' row → (∀ r, row = some r → r = b1 ∨ (w.heap.size ≤ r ∧ ∃ o : Obj, W.heap[r]? = some o ∧ o.isCells = false)) → I s W')
    (hX : ∀ s W W' row, X s W → W.grownBy W' row → (∀ r, row = some r → r = b1 ∨ (w.heap.size ≤ r ∧ ∃ o : Obj, W.heap[r]? = some o ∧ o.isCells = false)) → X s W') (h0 : I [] w) (a₁ : List UInt8 → Act)
    (hassign : ∀ (l : Nat) (x : List UInt8) (W : World) (K : Act → World → Prop), K (a₁ x) W →
      assign.wpIn (F.inRound l) (n - 1 - 1) P (Exit.then K (fun _ _ _ => False)) { tmps := (ps.zip #[.string (Str x)]).foldl (fun t (p, v) => t.setIfInBounds p v) a.tmps, defers := [] } W)
    (hbody : ∀ (l : Nat) (pre : List (List UInt8)) (x : List UInt8) (W : World), I pre W → pre ++ [x] <+: xs → body.wpIn (F.inRound l) (n - 1 - 1) P (boxPost b1 b2 b3 I X (pre ++ [x]) W) (a₁ x) W)
    (hdone : ∀ (D : Nat) (W : World), w.heap.size ≤ D → I xs W → W.heap[D]? = some (.deferred (some [])) → Q .normal { a with defers := { target := .collected D, args := #[] } :: a.defers } W)
    (hstop : ∀ (D : Nat) (pre : List (List UInt8)) (W : World), w.heap.size ≤ D → pre <+: xs → X pre W → W.heap[D]? = some (.deferred (some [])) → Code.ret.wpIn F n P Q { a with defers := { target := .collected D, args := #[] } :: a.defers } W) :
    (Code.rangeFunc g ps assign body).wpIn F n P Q a w := by
  refine wpIn_rangeFunc fun fn hfn => ?_
  rw [hro]
  let D := w.heap.size
  let R : LoopState → Option Code → Loop := fun st pe => { state := st, pending := pe, fn, tmps := a.tmps, params := ps, assign, body, defers := w.heap.size }
  -- the world in which the value is called
  let W1 := (w.alloc (.deferred (some []))).alloc (.loop (R .ready none))
  have sz1 : W1.heap.size = D + 2 := by simp [W1, D]
  have keep1 : ∀ k, k < D → W1.heap[k]? = w.heap[k]? := fun k hk => by
    have e1 := Below.heap_alloc (w.alloc (.deferred (some []))) (.loop (R .ready none)) k (by simp [D] at hk ⊢; omega)
    exact e1.trans (Below.heap_alloc w (.deferred (some [])) k hk)
  have hL : W1.heap[D + 1]? = some (.loop (R .ready none)) := by
    have := World.alloc_heap_new (w.alloc (.deferred (some []))) (.loop (R .ready none)); rwa [World.size_alloc] at this
  have hD : W1.heap[D]? = some (.deferred (some [])) := by
    exact (Below.heap_alloc _ _ _ (by simp [D])).trans (World.alloc_heap_new w _)
  have g1 : w.grownBy W1 none := ⟨rfl, rfl, rfl, by simp [W1]; omega, fun k hk _ => keep1 k hk⟩
  have i1 : I [] W1 := hI [] w W1 none h0 g1 (fun r e => by cases e)
  -- what is put into the loop's own block leaves all else
  have put : ∀ (W : World) (o : Obj), W.grownBy (W.putObj (D + 1) o) (some (D + 1)) := fun W o => grownBy_putObj' W (D + 1) o
  have book : ∀ {A B : World}, A.grownBy B (some b1) → ∀ k o, D ≤ k → A.heap[k]? = some o → B.heap[k]? = some o := fun hg' k o hk h => (hg'.block k (Array.getElem?_eq_some_iff.1 h).1 (fun e => by cases e; omega)).trans h
  let J : List (List UInt8) → World → Prop := fun pre W => I pre W ∧ W.heap[D + 1]? = some (.loop (R .ready none)) ∧ W.heap[D]? = some (.deferred (some []))
  let Jx : List (List UInt8) → World → Prop := fun pre W => X pre W ∧ W.heap[D + 1]? = some (.loop (R .done (some .ret))) ∧ W.heap[D]? = some (.deferred (some []))
  have bJ : Bears b1 J := fun s A B h hg' => ⟨hI s A B _ h.1 hg' (fun r e => by cases e; exact .inl rfl), book hg' _ _ (by omega) h.2.1, book hg' _ _ (Nat.le_refl _) h.2.2⟩
  have bX : Bears b1 Jx := fun s A B h hg' => ⟨hX s A B _ h.1 hg' (fun r e => by cases e; exact .inl rfl), book hg' _ _ (by omega) h.2.1, book hg' _ _ (Nat.le_refl _) h.2.2⟩
  have others : ∀ (W : World) (o : Obj) k, k ≠ D + 1 → (W.putObj (D + 1) o).heap[k]? = W.heap[k]? := fun W o k hk => World.putObj_heap_other (by omega)
  have k3 : ∀ (W : World) (o : Obj), Keep3 b1 b2 b3 W (W.putObj (D + 1) o) := fun W o => ⟨others W o _ (by omega), others W o _ (by omega), others W o _ (by omega)⟩
  refine ⟨D + 1, [{ target := .collected D, args := #[] }], W1, { target := .fn (.func gf) lb, args := #[.func (.yield (D + 1)) #[] #[]] }, W1, gf, #[.func (.yield (D + 1)) #[] #[]] ++ lb, W1, run_enterLoop_outer _ _ _ _ _, ?_, ?_, ?_, fun _ => h1, ?_⟩
  · simp only [resolve, hg]; simp [go_sem]
  · intro f' hf'; simp [Target.leads] at hf'; subst hf'; exact hFg
  · simp [invoke, go_sem, eg]
  · refine (hseq (D + 1) J Jx W1 ⟨keep1 _ hb1, keep1 _ hb2, keep1 _ hb3⟩ bJ bX ?_ ⟨i1, hL, hD⟩).mono ?_
    · rintro pre x W ⟨hi, hl, hk⟩ hpx
      have hlt : D + 1 < W.heap.size := (Array.getElem?_eq_some_iff.1 hl).1
      have hy := run_yield (P := P) (args := #[.string (Str x)]) hl (by simp [R, hps])
      refine ⟨fn, _, assign, body, hy, roundIn_of_wpIn hfn (hassign _ x W _ ⟨_, run_beginRound hl rfl, ?_⟩)⟩
      have hl2 : (W.putObj (D + 1) (.loop (R .busy none))).heap[D + 1]? = some (.loop (R .busy none)) := World.putObj_heap_same hlt
      have hk2 : (W.putObj (D + 1) (.loop (R .busy none))).heap[D]? = some (.deferred (some [])) := (others W _ D (by omega)).trans hk
      have hi2 := hI pre W _ _ hi (put W (.loop (R .busy none))) (fun r e => by cases e; exact .inr ⟨by omega, _, hl, rfl⟩)
      refine wpIn_mono (hbody _ pre x _ hi2 hpx) ?_
      intro e a3 W3 hp
      cases e with
      | normal =>
        obtain ⟨q1, q2, q3⟩ := hp
        have l3 := q1.same _ _ hl2 rfl
        have d3 := q1.same _ _ hk2 rfl
        refine ⟨_, _, run_endRound (P := P) none l3, .inl ⟨rfl, ⟨hI _ W3 _ _ q3 (put W3 _) (fun r e => by cases e; exact .inr ⟨by omega, _, l3, rfl⟩), World.putObj_heap_same (Array.getElem?_eq_some_iff.1 l3).1, (others W3 _ D (by omega)).trans d3⟩, ?_⟩⟩
        have ka := k3 W (.loop (R .busy none))
        have kb := k3 W3 (.loop { R .busy none with state := if (none : Option Code).isNone then .ready else .done, pending := none })
        exact ⟨kb.1.trans (q2.1.trans ka.1), kb.2.1.trans (q2.2.1.trans ka.2.1), kb.2.2.trans (q2.2.2.trans ka.2.2)⟩
      | ret =>
        obtain ⟨q1, q3⟩ := hp
        have l3 := q1.same _ _ hl2 rfl
        have d3 := q1.same _ _ hk2 rfl
        exact ⟨_, _, run_endRound (P := P) (some .ret) l3, .inr ⟨rfl, hX _ W3 _ _ q3 (put W3 _) (fun r e => by cases e; exact .inr ⟨by omega, _, l3, rfl⟩), World.putObj_heap_same (Array.getElem?_eq_some_iff.1 l3).1, (others W3 _ D (by omega)).trans d3⟩⟩
      | exit id => exact hp.elim
      | goto t => exact hp.elim
      | panic ch => exact hp.elim
      | outgrown => exact hp.elim
    · rintro e W2 ⟨⟨v, rfl⟩, (⟨hi, hl, hk⟩ | ⟨pre, hpre, hx, hl, hk⟩)⟩
      · exact ⟨none, _, run_endLoop (P := P) hl (by simp [R]), hdone D _ (Nat.le_refl _) (hI _ W2 _ _ hi (put W2 _) (fun r e => by cases e; exact .inr ⟨by omega, _, hl, rfl⟩)) ((others W2 _ D (by omega)).trans hk)⟩
      · exact ⟨some .ret, _, run_endLoop (P := P) hl (by simp [R]), hstop D pre _ (Nat.le_refl _) hpre (hX _ W2 _ _ hx (put W2 _) (fun r e => by cases e; exact .inr ⟨by omega, _, hl, rfl⟩)) ((others W2 _ D (by omega)).trans hk)⟩
end
end Go.Proofs.YtalnfjnfcloonaaGreatDoor
