/-
  Deadlines by keys as a list in order: plain mathematics of layer 12.
-/
import Derived.Test.YtiegeejbnplhdaaPureSet
namespace Go.Proofs.Ytiegeejbnplhdaa
set_option linter.unusedVariables false
set_option linter.unusedSectionVars false
set_option linter.unusedSimpArgs false

/-- A key, and its deadline. -/
abbrev EN := List UInt8 × Int
def ltK (a b : List UInt8) : Bool := decide (a < b)
def ltE (a b : EN) : Bool := decide (a.2 < b.2) || (decide (a.2 = b.2) && ltK a.1 b.1)
theorem ltK_irr : ∀ a : List UInt8, ltK a a = false := fun a => by unfold ltK; rw [decide_eq_false_iff_not]; exact List.lt_irrefl a
theorem ltK_trans (a b c : List UInt8) (h1 : ltK a b = true) (h2 : ltK b c = true) : ltK a c = true := by
  unfold ltK at *
  rw [decide_eq_true_iff] at *
  exact List.lt_trans h1 h2
theorem ltK_tot (a b : List UInt8) (h : a ≠ b) : ltK a b = true ∨ ltK b a = true := by
  unfold ltK
  rw [decide_eq_true_iff, decide_eq_true_iff]
  rcases List.le_total a b with h1 | h1
  · by_cases h2 : a < b
    · exact .inl h2
    · exact absurd (List.le_antisymm h1 (List.not_lt.1 h2)) h
  · by_cases h2 : b < a
    · exact .inr h2
    · exact absurd (List.le_antisymm (List.not_lt.1 h2) h1) h
theorem ltK_ord : Ord9 ltK (fun _ => true) := ⟨ltK_irr, ltK_trans, fun a b _ _ h => ltK_tot a b h⟩
theorem ltE_iff (a b : EN) : ltE a b = true ↔ a.2 < b.2 ∨ (a.2 = b.2 ∧ ltK a.1 b.1 = true) := by unfold ltE; simp
theorem ltE_ord : Ord9 ltE (fun _ => true) := by
  refine ⟨fun a => ?_, fun a b c h1 h2 => ?_, fun a b _ _ h => ?_⟩
  · unfold ltE; rw [ltK_irr]; simp
  · rw [ltE_iff] at *
    rcases h1 with h1 | ⟨h1, k1⟩ <;> rcases h2 with h2 | ⟨h2, k2⟩
    · left; omega
    · left; omega
    · left; omega
    · exact .inr ⟨by omega, ltK_trans _ _ _ k1 k2⟩
  · rw [ltE_iff, ltE_iff]
    by_cases h2 : a.2 = b.2
    · have : a.1 ≠ b.1 := fun e => h (Prod.ext e h2)
      rcases ltK_tot _ _ this with k | k
      · exact .inl (.inr ⟨h2, k⟩)
      · exact .inr (.inr ⟨h2.symm, k⟩)
    · omega
/-- What is held of the document's list. -/
structure CkOk (l : List EN) : Prop where
  s : Sorted ltE l
  u : ∀ x ∈ l, ∀ y ∈ l, x.1 = y.1 → x = y
theorem CkOk.nil : CkOk [] := ⟨List.Pairwise.nil, fun x hx => by cases hx⟩
/-- The list without a key. -/
def cutE (l : List EN) (k : List UInt8) : List EN := l.filter (fun x => !decide (x.1 = k))
def setE (l : List EN) (k : List UInt8) (t : Int) : List EN := insS ltE (k, t) (cutE l k)
def keysE (l : List EN) : List (List UInt8) := l.map (·.1)
def hasE (l : List EN) (k : List UInt8) : Bool := l.any (fun x => decide (x.1 = k))
/-- How many are due. -/
def dueE (l : List EN) (now : Int) : Nat := (l.takeWhile (fun x => decide (x.2 ≤ now))).length
theorem mem_cutE (l : List EN) (k : List UInt8) (x : EN) : x ∈ cutE l k ↔ x ∈ l ∧ x.1 ≠ k := by unfold cutE; simp [List.mem_filter]
theorem CkOk.cut {l : List EN} (h : CkOk l) (k : List UInt8) : CkOk (cutE l k) :=
  ⟨Sorted.filter h.s _, fun x hx y hy e => h.u x ((mem_cutE _ _ _).1 hx).1 y ((mem_cutE _ _ _).1 hy).1 e⟩
theorem mem_setE (l : List EN) (k : List UInt8) (t : Int) (x : EN) : x ∈ setE l k t ↔ x = (k, t) ∨ (x ∈ l ∧ x.1 ≠ k) := by
  unfold setE
  rw [mem_insS, mem_cutE]
theorem CkOk.set {l : List EN} (h : CkOk l) (k : List UInt8) (t : Int) : CkOk (setE l k t) := by
  refine ⟨sorted_insS ltE_ord rfl (h.cut k).s (fun _ _ => rfl) (fun hm => ((mem_cutE _ _ _).1 hm).2 rfl), fun x hx y hy e => ?_⟩
  rcases (mem_setE _ _ _ _).1 hx with rfl | ⟨h1, h2⟩ <;> rcases (mem_setE _ _ _ _).1 hy with rfl | ⟨h3, h4⟩
  · rfl
  · exact absurd e.symm h4
  · exact absurd e h2
  · exact h.u x h1 y h3 e
/-- What is in order and has the same entries is the same. -/
theorem CkOk.ext {l m : List EN} (h : CkOk l) (hm : Sorted ltE m) (he : ∀ x, x ∈ m ↔ x ∈ l) : m = l := Sorted.ext ltE_ord hm h.s he
theorem hasE_iff (l : List EN) (k : List UInt8) : hasE l k = true ↔ ∃ t, (k, t) ∈ l := by
  unfold hasE
  rw [List.any_eq_true]
  constructor
  · rintro ⟨x, hx, hk⟩
    rw [decide_eq_true_iff] at hk
    exact ⟨x.2, by rw [← hk]; exact hx⟩
  · rintro ⟨t, ht⟩
    exact ⟨_, ht, by simp⟩
theorem due_take {l : List EN} (h : Sorted ltE l) (now : Int) : l.take (dueE l now) = l.filter (fun x => decide (x.2 ≤ now)) ∧ l.drop (dueE l now) = l.filter (fun x => !decide (x.2 ≤ now)) := by
  unfold dueE
  induction l with
  | nil => simp
  | cons a r ih =>
    obtain ⟨h1, h2⟩ := List.pairwise_cons.1 h
    obtain ⟨i1, i2⟩ := ih h2
    by_cases ha : a.2 ≤ now
    · simp only [List.takeWhile_cons, ha, decide_true, if_true, List.length_cons, List.take_succ_cons, List.drop_succ_cons, List.filter_cons, Bool.not_true, Bool.false_eq_true, if_false, i1, i2, true_and]
    · have hr : ∀ x ∈ r, ¬ x.2 ≤ now := fun x hx => by
        rcases (ltE_iff _ _).1 (h1 x hx) with h3 | ⟨h3, _⟩ <;> omega
      have e1 : r.filter (fun x => decide (x.2 ≤ now)) = [] := List.filter_eq_nil_iff.2 (fun x hx => by simpa using hr x hx)
      have e2 : r.filter (fun x => !decide (x.2 ≤ now)) = r := List.filter_eq_self.2 (fun x hx => by simpa using hr x hx)
      simp [List.takeWhile_cons, ha, e1, e2]
theorem CkOk.drop {l : List EN} (h : CkOk l) (n : Nat) : CkOk (l.drop n) := ⟨List.Pairwise.sublist (List.drop_sublist n l) h.s, fun x hx y hy e => h.u x (List.mem_of_mem_drop hx) y (List.mem_of_mem_drop hy) e⟩
theorem CkOk.take {l : List EN} (h : CkOk l) (n : Nat) : CkOk (l.take n) := ⟨List.Pairwise.sublist (List.take_sublist n l) h.s, fun x hx y hy e => h.u x (List.mem_of_mem_take hx) y (List.mem_of_mem_take hy) e⟩
/-- Texts, rising: the document's Sorted. -/
def sortK (l : List (List UInt8)) : List (List UInt8) := l.foldl (fun out k => insS ltK k out) []
theorem sortK_go : ∀ (l acc : List (List UInt8)), Sorted ltK acc → l.Nodup → (∀ x ∈ l, x ∉ acc) → Sorted ltK (l.foldl (fun out k => insS ltK k out) acc) ∧ ∀ x, x ∈ l.foldl (fun out k => insS ltK k out) acc ↔ x ∈ acc ∨ x ∈ l
  | [], acc, hs, _, _ => ⟨hs, fun x => by simp⟩
  | a :: r, acc, hs, hn, hd => by
    obtain ⟨n1, n2⟩ := List.nodup_cons.1 hn
    have h1 := sorted_insS ltK_ord (a := a) rfl hs (fun _ _ => rfl) (hd a (by simp))
    obtain ⟨g1, g2⟩ := sortK_go r (insS ltK a acc) h1 n2 (fun x hx hm => by
      rcases (mem_insS _ _ _).1 hm with rfl | hm
      · exact n1 hx
      · exact hd x (List.mem_cons_of_mem _ hx) hm)
    refine ⟨g1, fun x => ?_⟩
    rw [List.foldl_cons, g2 x, mem_insS]
    simp only [List.mem_cons]
    grind
theorem CkOk.nodup {l : List EN} (h : CkOk l) : (keysE l).Nodup := by
  have h1 := Sorted.nodup ltE_ord h.s
  unfold keysE
  have : ∀ m : List EN, m.Nodup → (∀ x ∈ m, ∀ y ∈ m, x.1 = y.1 → x = y) → (m.map (·.1)).Nodup := by
    intro m
    induction m with
    | nil => intro _ _; simp
    | cons a r ih =>
      intro hn hu
      obtain ⟨n1, n2⟩ := List.nodup_cons.1 hn
      rw [List.map_cons, List.nodup_cons]
      refine ⟨fun hm => ?_, ih n2 (fun x hx y hy => hu x (List.mem_cons_of_mem _ hx) y (List.mem_cons_of_mem _ hy))⟩
      obtain ⟨y, hy, e⟩ := List.mem_map.1 hm
      have := hu y (List.mem_cons_of_mem _ hy) a (by simp) e
      exact n1 (this ▸ hy)
  exact this l h1 h.u
theorem CkOk.keys {l : List EN} (h : CkOk l) : Sorted ltK (sortK (keysE l)) ∧ ∀ k, k ∈ sortK (keysE l) ↔ ∃ t, (k, t) ∈ l := by
  obtain ⟨h1, h2⟩ := sortK_go (keysE l) [] List.Pairwise.nil h.nodup (fun x _ hx => by cases hx)
  refine ⟨h1, fun k => ?_⟩
  show k ∈ (keysE l).foldl _ [] ↔ _
  rw [h2 k]
  unfold keysE
  simp
/-- Keys in order are the document's. -/
theorem CkOk.keys_ext {l : List EN} {m : List (List UInt8)} (h : CkOk l) (hm : Sorted ltK m) (he : ∀ k, k ∈ m ↔ ∃ t, (k, t) ∈ l) : m = sortK (keysE l) :=
  Sorted.ext ltK_ord hm h.keys.1 (fun x => by rw [he, h.keys.2])
end Go.Proofs.Ytiegeejbnplhdaa
