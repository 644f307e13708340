/-
  Sets as lists in order, plain: a list as a set, and that what is in order and has the same elements is the same; the order of addresses.
-/
import Derived.Test.YtiegeejbnplhdaaBase
import Derived.Lib.Bytealg
namespace Go.Proofs.Ytiegeejbnplhdaa
set_option linter.unusedVariables false
set_option linter.unusedSectionVars false

/-- An order by a test: none is less than itself, what is less goes on, and of two good ones that are not the same one is less. -/
structure Ord9 {α : Type} (lt : α → α → Bool) (good : α → Bool) : Prop where
  irr : ∀ a, lt a a = false
  trans : ∀ a b c, lt a b = true → lt b c = true → lt a c = true
  tot : ∀ a b, good a = true → good b = true → a ≠ b → lt a b = true ∨ lt b a = true
def Sorted {α : Type} (lt : α → α → Bool) (l : List α) : Prop := l.Pairwise (fun x y => lt x y = true)
variable {α : Type} [DecidableEq α] {lt : α → α → Bool} {good : α → Bool}
theorem Ord9.anti (o : Ord9 lt good) {a b : α} (h : lt a b = true) : lt b a = false := by
  cases h2 : lt b a with
  | false => rfl
  | true => have := o.trans a b a h h2; rw [o.irr] at this; exact this.symm
theorem Sorted.ext (o : Ord9 lt good) : ∀ {l m : List α}, Sorted lt l → Sorted lt m → (∀ x, x ∈ l ↔ x ∈ m) → l = m
  | [], [], _, _, _ => rfl
  | [], b :: m, _, _, h => absurd ((h b).2 (by simp)) (by simp)
  | a :: l, [], _, _, h => absurd ((h a).1 (by simp)) (by simp)
  | a :: l, b :: m, hl, hm, h => by
    obtain ⟨h1, h2⟩ := List.pairwise_cons.1 hl
    obtain ⟨k1, k2⟩ := List.pairwise_cons.1 hm
    have e : a = b := by
      rcases List.mem_cons.1 ((h a).1 (by simp)) with e | ha
      · exact e
      rcases List.mem_cons.1 ((h b).2 (by simp)) with e | hb
      · exact e.symm
      have x := k1 a ha
      have y := h1 b hb
      rw [o.anti x] at y; cases y
    subst e
    rw [Sorted.ext o h2 k2 (fun x => ?_)]
    have hx := h x
    simp only [List.mem_cons] at hx
    constructor
    · intro hx1
      rcases hx.1 (Or.inr hx1) with e | h3
      · subst e; have := h1 _ hx1; rw [o.irr] at this; cases this
      · exact h3
    · intro hx1
      rcases hx.2 (Or.inr hx1) with e | h3
      · subst e; have := k1 _ hx1; rw [o.irr] at this; cases this
      · exact h3
/-- A set with one more. -/
def insS (lt : α → α → Bool) (a : α) (l : List α) : List α := l.takeWhile (lt · a) ++ a :: l.dropWhile (lt · a)
theorem mem_insS (a x : α) (l : List α) : x ∈ insS lt a l ↔ x = a ∨ x ∈ l := by
  unfold insS
  have h := List.takeWhile_append_dropWhile (p := (lt · a)) (l := l)
  have : x ∈ l ↔ x ∈ l.takeWhile (lt · a) ∨ x ∈ l.dropWhile (lt · a) := by
    rw [← List.mem_append, h]
  simp only [List.mem_append, List.mem_cons, this]
  grind
theorem sorted_insS (o : Ord9 lt good) {a : α} (ha : good a = true) : ∀ {l : List α}, Sorted lt l → (∀ x ∈ l, good x = true) → a ∉ l → Sorted lt (insS lt a l)
  | [], _, _, _ => by unfold insS Sorted; simp
  | b :: l, hl, hg, hn => by
    obtain ⟨h1, h2⟩ := List.pairwise_cons.1 hl
    unfold insS
    cases hb : lt b a with
    | true =>
      rw [List.takeWhile_cons_of_pos (by simpa using hb), List.dropWhile_cons_of_pos (by simpa using hb), List.cons_append]
      have ih := sorted_insS o ha h2 (fun x hx => hg x (by simp [hx])) (fun h => hn (by simp [h]))
      refine List.pairwise_cons.2 ⟨fun x hx => ?_, ih⟩
      rcases (mem_insS a x l).1 hx with e | h
      · subst e; exact hb
      · exact h1 x h
    | false =>
      rw [List.takeWhile_cons_of_neg (by simpa using hb), List.dropWhile_cons_of_neg (by simpa using hb), List.nil_append]
      have hab : lt a b = true := by
        rcases o.tot a b ha (hg b (by simp)) (fun e => hn (by simp [e])) with h | h
        · exact h
        · rw [h] at hb; cases hb
      refine List.pairwise_cons.2 ⟨fun x hx => ?_, hl⟩
      rcases List.mem_cons.1 hx with e | h
      · subst e; exact hab
      · exact o.trans _ _ _ hab (h1 x h)
theorem Sorted.filter {l : List α} (h : Sorted lt l) (p : α → Bool) : Sorted lt (l.filter p) := List.Pairwise.filter p h
theorem Sorted.nodup (o : Ord9 lt good) {l : List α} (h : Sorted lt l) : l.Nodup := List.Pairwise.imp (fun {a b} hab e => by subst e; rw [o.irr] at hab; cases hab) h

end Go.Proofs.Ytiegeejbnplhdaa
