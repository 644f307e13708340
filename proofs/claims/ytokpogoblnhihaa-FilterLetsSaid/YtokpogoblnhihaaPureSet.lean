/-
  Sets as lists in order, plain: a list as a set, and that what is in order and has the same elements is the same; the order of addresses.
-/
import Derived.Test.YtokpogoblnhihaaMg00
import Derived.Lib.Bytealg
namespace Go.Proofs.Ytokpogoblnhihaa
set_option linter.unusedVariables false
set_option linter.unusedSectionVars false

/-- An order by a test: none is less than itself, what is less goes on, and of two good ones that are not the same one is less. -/
structure Ord9 {α : Type} (lt : α → α → Bool) (good : α → Bool) : Prop where
  irr : ∀ a, lt a a = false
  trans : ∀ a b c, lt a b = true → lt b c = true → lt a c = true
  tot : ∀ a b, good a = true → good b = true → a ≠ b → lt a b = true ∨ lt b a = true
def Sorted {α : Type} (lt : α → α → Bool) (l : List α) : Prop := l.Pairwise (fun x y => lt x y = true)
variable {α : Type} [DecidableEq α] {lt : α → α → Bool} {good : α → Bool}
theorem Ord9.anti (o : Ord9 lt good) {a b : α} (h : lt a b = true) : lt b a = false := by
  cases h2 : lt b a with
  | false => rfl
  | true => have := o.trans a b a h h2; rw [o.irr] at this; exact this.symm
theorem Sorted.ext (o : Ord9 lt good) : ∀ {l m : List α}, Sorted lt l → Sorted lt m → (∀ x, x ∈ l ↔ x ∈ m) → l = m
  | [], [], _, _, _ => rfl
  | [], b :: m, _, _, h => absurd ((h b).2 (by simp)) (by simp)
  | a :: l, [], _, _, h => absurd ((h a).1 (by simp)) (by simp)
  | a :: l, b :: m, hl, hm, h => by
    obtain ⟨h1, h2⟩ := List.pairwise_cons.1 hl
    obtain ⟨k1, k2⟩ := List.pairwise_cons.1 hm
    have e : a = b := by
      rcases List.mem_cons.1 ((h a).1 (by simp)) with e | ha
      · exact e
      rcases List.mem_cons.1 ((h b).2 (by simp)) with e | hb
      · exact e.symm
      have x := k1 a ha
      have y := h1 b hb
      rw [o.anti x] at y; cases y
    subst e
    rw [Sorted.ext o h2 k2 (fun x => ?_)]
    have hx := h x
    simp only [List.mem_cons] at hx
    constructor
    · intro hx1
      rcases hx.1 (Or.inr hx1) with e | h3
      · subst e; have := h1 _ hx1; rw [o.irr] at this; cases this
      · exact h3
    · intro hx1
      rcases hx.2 (Or.inr hx1) with e | h3
      · subst e; have := k1 _ hx1; rw [o.irr] at this; cases this
      · exact h3
/-- A set with one more. -/
def insS (lt : α → α → Bool) (a : α) (l : List α) : List α := l.takeWhile (lt · a) ++ a :: l.dropWhile (lt · a)
def addS (lt : α → α → Bool) (good : α → Bool) (l : List α) (a : α) : List α := if l.contains a || !good a then l else insS lt a l
def ofS (lt : α → α → Bool) (good : α → Bool) (l : List α) : List α := l.foldl (addS lt good) []
theorem mem_insS (a x : α) (l : List α) : x ∈ insS lt a l ↔ x = a ∨ x ∈ l := by
  unfold insS
  have h := List.takeWhile_append_dropWhile (p := (lt · a)) (l := l)
  have : x ∈ l ↔ x ∈ l.takeWhile (lt · a) ∨ x ∈ l.dropWhile (lt · a) := by
    rw [← List.mem_append, h]
  simp only [List.mem_append, List.mem_cons, this]
  grind
theorem sorted_insS (o : Ord9 lt good) {a : α} (ha : good a = true) : ∀ {l : List α}, Sorted lt l → (∀ x ∈ l, good x = true) → a ∉ l → Sorted lt (insS lt a l)
  | [], _, _, _ => by unfold insS Sorted; simp
  | b :: l, hl, hg, hn => by
    obtain ⟨h1, h2⟩ := List.pairwise_cons.1 hl
    unfold insS
    cases hb : lt b a with
    | true =>
      rw [List.takeWhile_cons_of_pos (by simpa using hb), List.dropWhile_cons_of_pos (by simpa using hb), List.cons_append]
      have ih := sorted_insS o ha h2 (fun x hx => hg x (by simp [hx])) (fun h => hn (by simp [h]))
      refine List.pairwise_cons.2 ⟨fun x hx => ?_, ih⟩
      rcases (mem_insS a x l).1 hx with e | h
      · subst e; exact hb
      · exact h1 x h
    | false =>
      rw [List.takeWhile_cons_of_neg (by simpa using hb), List.dropWhile_cons_of_neg (by simpa using hb), List.nil_append]
      have hab : lt a b = true := by
        rcases o.tot a b ha (hg b (by simp)) (fun e => hn (by simp [e])) with h | h
        · exact h
        · rw [h] at hb; cases hb
      refine List.pairwise_cons.2 ⟨fun x hx => ?_, hl⟩
      rcases List.mem_cons.1 hx with e | h
      · subst e; exact hab
      · exact o.trans _ _ _ hab (h1 x h)
theorem addS_ok (o : Ord9 lt good) {l : List α} (a : α) (hl : Sorted lt l) (hg : ∀ x ∈ l, good x = true) : Sorted lt (addS lt good l a) ∧ (∀ x ∈ addS lt good l a, good x = true) ∧ ∀ x, x ∈ addS lt good l a ↔ x ∈ l ∨ (x = a ∧ good a = true) := by
  unfold addS
  by_cases h : (l.contains a || !good a) = true
  · rw [if_pos h]
    refine ⟨hl, hg, fun x => ⟨Or.inl, fun hx => ?_⟩⟩
    rcases hx with hx | ⟨rfl, hx⟩
    · exact hx
    · rw [hx] at h; simpa using h
  · rw [if_neg h]
    simp only [Bool.or_eq_true, not_or, Bool.not_eq_true', List.contains_iff_mem] at h
    have hga : good a = true := by simpa using h.2
    refine ⟨sorted_insS o hga hl hg h.1, fun x hx => ?_, fun x => ?_⟩
    · rcases (mem_insS a x l).1 hx with e | h
      · subst e; exact hga
      · exact hg x h
    · rw [mem_insS]; simp only [hga, and_true]; exact Or.comm
theorem ofS_go (o : Ord9 lt good) : ∀ (l acc : List α), Sorted lt acc → (∀ x ∈ acc, good x = true) → Sorted lt (l.foldl (addS lt good) acc) ∧ (∀ x ∈ l.foldl (addS lt good) acc, good x = true) ∧ ∀ x, x ∈ l.foldl (addS lt good) acc ↔ x ∈ acc ∨ (x ∈ l ∧ good x = true)
  | [], acc, h1, h2 => ⟨h1, h2, fun x => by simp⟩
  | a :: l, acc, h1, h2 => by
    obtain ⟨g1, g2, g3⟩ := addS_ok o a h1 h2
    obtain ⟨k1, k2, k3⟩ := ofS_go o l (addS lt good acc a) g1 g2
    refine ⟨k1, k2, fun x => ?_⟩
    rw [List.foldl_cons, k3, g3]
    simp only [List.mem_cons]
    constructor
    · rintro ((h | ⟨rfl, h⟩) | ⟨h, h'⟩)
      · exact Or.inl h
      · exact Or.inr ⟨Or.inl rfl, h⟩
      · exact Or.inr ⟨Or.inr h, h'⟩
    · rintro (h | ⟨rfl | h, h'⟩)
      · exact Or.inl (Or.inl h)
      · exact Or.inl (Or.inr ⟨rfl, h'⟩)
      · exact Or.inr ⟨h, h'⟩
theorem ofS_sorted (o : Ord9 lt good) (l : List α) : Sorted lt (ofS lt good l) := (ofS_go o l [] List.Pairwise.nil (fun x hx => by cases hx)).1
theorem ofS_good (o : Ord9 lt good) (l : List α) : ∀ x ∈ ofS lt good l, good x = true := (ofS_go o l [] List.Pairwise.nil (fun x hx => by cases hx)).2.1
theorem mem_ofS (o : Ord9 lt good) (l : List α) (x : α) : x ∈ ofS lt good l ↔ x ∈ l ∧ good x = true := by
  rw [ofS, (ofS_go o l [] List.Pairwise.nil (fun x hx => by cases hx)).2.2]; simp
/-- Whatever is in order, good, and has the list's good ones is the list as a set. -/
theorem ofS_of (o : Ord9 lt good) {l s : List α} (hs : Sorted lt s) (h : ∀ x, x ∈ s ↔ x ∈ l ∧ good x = true) : s = ofS lt good l :=
  Sorted.ext o hs (ofS_sorted o l) (fun x => by rw [h, mem_ofS o])
theorem ofS_id (o : Ord9 lt good) {l : List α} (hs : Sorted lt l) (hg : ∀ x ∈ l, good x = true) : ofS lt good l = l :=
  (ofS_of o hs (fun x => ⟨fun h => ⟨h, hg x h⟩, fun h => h.1⟩)).symm
theorem Sorted.filter {l : List α} (h : Sorted lt l) (p : α → Bool) : Sorted lt (l.filter p) := List.Pairwise.filter p h
/-- Addresses in their order. -/
theorem cb_irr : ∀ (l : List UInt8), Lib.compareBytes l l = 0
  | [] => rfl
  | c :: r => by
    have hlt : ¬ c < c := UInt8.lt_irrefl c
    simp [Lib.compareBytes, hlt, cb_irr r]
theorem cb_trans : ∀ (l m n : List UInt8), Lib.compareBytes l m = -1 → Lib.compareBytes m n = -1 → Lib.compareBytes l n = -1
  | [], [], _, h, _ => by simp [Lib.compareBytes] at h
  | [], _ :: _, [], _, h => by simp [Lib.compareBytes] at h
  | [], _ :: _, _ :: _, _, _ => rfl
  | _ :: _, [], _, h, _ => by simp [Lib.compareBytes] at h
  | _ :: _, _ :: _, [], _, h => by simp [Lib.compareBytes] at h
  | a :: r, b :: s, c :: t, h1, h2 => by
    simp only [Lib.compareBytes] at h1 h2 ⊢
    by_cases ab : a < b
    · by_cases bc : b < c
      · rw [if_pos (UInt8.lt_trans ab bc)]
      · rw [if_neg bc] at h2
        by_cases cb : c < b
        · rw [if_pos cb] at h2; cases h2
        · have e : b = c := UInt8.le_antisymm (UInt8.not_lt.1 cb) (UInt8.not_lt.1 bc)
          subst e
          rw [if_pos ab]
    · rw [if_neg ab] at h1
      by_cases ba : b < a
      · rw [if_pos ba] at h1; cases h1
      · rw [if_neg ba] at h1
        have e : a = b := UInt8.le_antisymm (UInt8.not_lt.1 ba) (UInt8.not_lt.1 ab)
        subst e
        by_cases bc : a < c
        · rw [if_pos bc]
        · rw [if_neg bc] at h2 ⊢
          by_cases cb : c < a
          · rw [if_pos cb] at h2; cases h2
          · rw [if_neg cb] at h2 ⊢
            exact cb_trans r s t h1 h2
theorem cb_anti : ∀ (l m : List UInt8), Lib.compareBytes m l = - Lib.compareBytes l m
  | [], [] => rfl
  | [], _ :: _ => rfl
  | _ :: _, [] => rfl
  | a :: r, b :: s => by
    simp only [Lib.compareBytes]
    by_cases h1 : a < b
    · have h2 : ¬ b < a := fun h => UInt8.lt_irrefl _ (UInt8.lt_trans h1 h)
      simp [h1, h2]
    · by_cases h2 : b < a
      · simp [h1, h2]
      · simp [h1, h2, cb_anti r s]
theorem cb_three : ∀ (l m : List UInt8), (Lib.compareBytes l m = -1 ∧ l ≠ m) ∨ (Lib.compareBytes l m = 0 ∧ l = m) ∨ (Lib.compareBytes l m = 1 ∧ l ≠ m)
  | [], [] => .inr (.inl ⟨rfl, rfl⟩)
  | [], _ :: _ => .inl ⟨rfl, by simp⟩
  | _ :: _, [] => .inr (.inr ⟨rfl, by simp⟩)
  | a :: r, b :: s => by
    simp only [Lib.compareBytes]
    by_cases h1 : a < b
    · left
      have : a ≠ b := fun h => UInt8.lt_irrefl _ (h ▸ h1)
      simp [h1, this]
    · by_cases h2 : b < a
      · right; right
        have : a ≠ b := fun h => UInt8.lt_irrefl _ (h ▸ h2)
        simp [h1, h2, this]
      · have hab : a = b := UInt8.le_antisymm (UInt8.not_lt.1 h2) (UInt8.not_lt.1 h1)
        subst hab
        simpa [h1] using cb_three r s
/-- Which of two addresses stands first. -/
def ltA (a b : Bool × List UInt8) : Bool := if a.1 == b.1 then decide (Lib.compareBytes a.2 b.2 = -1) else b.1
theorem ltA_ord (good : Bool × List UInt8 → Bool) : Ord9 ltA good := by
  refine ⟨fun a => ?_, fun a b c h1 h2 => ?_, fun a b _ _ hne => ?_⟩
  · unfold ltA; rw [cb_irr]; simp
  · obtain ⟨u, x⟩ := a; obtain ⟨v, y⟩ := b; obtain ⟨w, z⟩ := c
    unfold ltA at *
    cases u <;> cases v <;> cases w <;> simp at *
    · exact cb_trans _ _ _ h1 h2
    · exact cb_trans _ _ _ h1 h2
  · obtain ⟨u, x⟩ := a; obtain ⟨v, y⟩ := b
    unfold ltA
    have h3 := cb_three x y
    have h4 := cb_anti x y
    cases u <;> cases v <;> simp at *
    all_goals
      rcases h3 with ⟨h, e⟩ | ⟨h, e⟩ | ⟨h, e⟩
      · exact Or.inl h
      · exact absurd e hne
      · right; rw [h4, h]
end Go.Proofs.Ytokpogoblnhihaa
