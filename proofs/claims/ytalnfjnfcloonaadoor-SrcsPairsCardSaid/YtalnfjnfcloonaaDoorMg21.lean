/-
  Texts joined: PureSed, Sort.
-/
import Derived.Test.YtalnfjnfcloonaaDoorPureSet
import Derived.Shelf.SlSortCmp.WholeK
import Derived.Ground.SlsfProg
import Derived.Test.YtalnfjnfcloonaaDoorProg
/-
  Sets as lists in order, plain: runs of equals cut to one, and that what is sorted and cut so is the list as a set.
-/
namespace Go.Proofs.YtalnfjnfcloonaaDoor
set_option linter.unusedVariables false
set_option linter.unusedSectionVars false
variable {α : Type} [DecidableEq α] {lt : α → α → Bool} {good : α → Bool}

theorem snocInd {P : List α → Prop} (h0 : P []) (h1 : ∀ l a, P l → P (l ++ [a])) (l : List α) : P l := by
  have : ∀ r : List α, P r.reverse := by
    intro r
    induction r with
    | nil => exact h0
    | cons a r ih => rw [List.reverse_cons]; exact h1 _ _ ih
  have := this l.reverse
  rwa [List.reverse_reverse] at this
/-- One more behind a list whose runs are cut. -/
def dedStep (acc : List α) (a : α) : List α := if acc.getLast? = some a then acc else acc ++ [a]
/-- Runs of equals cut to one. -/
def ded (l : List α) : List α := l.foldl dedStep []
theorem ded_snoc (l : List α) (a : α) : ded (l ++ [a]) = dedStep (ded l) a := by unfold ded; rw [List.foldl_append]; rfl
theorem ded_last (l : List α) : (ded l).getLast? = l.getLast? := by
  refine snocInd (P := fun l => (ded l).getLast? = l.getLast?) rfl (fun l a ih => ?_) l
  rw [ded_snoc]
  unfold dedStep
  split
  · rename_i h; rw [h]; simp
  · simp
theorem mem_ded (l : List α) : ∀ x, x ∈ ded l ↔ x ∈ l := by
  refine snocInd (P := fun l => ∀ x, x ∈ ded l ↔ x ∈ l) (fun x => Iff.rfl) (fun l a ih x => ?_) l
  rw [ded_snoc]
  unfold dedStep
  split
  · rename_i h
    rw [ih, List.mem_append, List.mem_singleton]
    have : a ∈ l := by rw [← ih]; exact List.mem_of_getLast? h
    constructor
    · exact Or.inl
    · rintro (h | rfl)
      · exact h
      · exact this
  · simp [ih]
theorem ded_take_succ {l : List α} {k : Nat} (h : k + 1 < l.length) : ded (l.take (k + 2)) = if l[k + 1] = l[k] then ded (l.take (k + 1)) else ded (l.take (k + 1)) ++ [l[k + 1]] := by
  rw [List.take_succ_eq_append_getElem h, ded_snoc]
  unfold dedStep
  rw [ded_last, List.take_succ_eq_append_getElem (show k < l.length by omega)]
  simp only [List.getLast?_append, List.getLast?_singleton, Option.some_or, Option.some.injEq]
  by_cases e : l[k + 1] = l[k]
  · rw [if_pos e, if_pos e.symm]
  · rw [if_neg e, if_neg (fun h => e h.symm)]
/-- No runs: nothing is cut. -/
theorem ded_id {l : List α} : ∀ {k : Nat}, k ≤ l.length → (∀ i (h : i + 1 < l.length), i + 1 < k → l[i + 1] ≠ l[i]) → ded (l.take k) = l.take k
  | 0, _, _ => rfl
  | 1, hk, _ => by
    match l, hk with
    | a :: r, _ => rfl
  | k + 2, hk, h => by
    rw [ded_take_succ (by omega), if_neg (h k (by omega) (by omega)), ded_id (by omega) (fun i hi h2 => h i hi (by omega)), ← List.take_succ_eq_append_getElem]
/-- What is in order, with equals: cut, it is in order. -/
theorem ded_sorted (o : Ord9 lt (fun _ => true)) (l : List α) : l.Pairwise (fun x y => lt y x = false) → Sorted lt (ded l) := by
  refine snocInd (P := fun l => l.Pairwise (fun x y => lt y x = false) → Sorted lt (ded l)) (fun _ => List.Pairwise.nil) (fun l a ih hp => ?_) l
  obtain ⟨h1, _, h2⟩ := List.pairwise_append.1 hp
  have hs := ih h1
  rw [ded_snoc]
  unfold dedStep
  split
  · exact hs
  · rename_i hne
    refine List.pairwise_append.2 ⟨hs, by simp, fun x hx y hy => ?_⟩
    rw [List.mem_singleton] at hy
    subst hy
    have hxl := (mem_ded l x).1 hx
    have hle := h2 x hxl _ (List.mem_singleton.2 rfl)
    by_cases e : x = y
    · exfalso
      subst e
      obtain ⟨z, hz⟩ : ∃ z, (ded l).getLast? = some z := by
        cases hq : (ded l).getLast? with
        | none => rw [List.getLast?_eq_none_iff] at hq; rw [hq] at hx; cases hx
        | some z => exact ⟨z, rfl⟩
      have hzl : z ∈ l := (mem_ded l z).1 (List.mem_of_getLast? hz)
      obtain ⟨init, hi⟩ : ∃ init, ded l = init ++ [z] := by
        obtain ⟨h0, h⟩ := List.getLast?_eq_some_iff.1 hz
        exact ⟨h0, h⟩
      have hzx : z ≠ x := fun e => hne (by rw [hz, e])
      have hxi : x ∈ init := by
        rw [hi, List.mem_append, List.mem_singleton] at hx
        rcases hx with h | h
        · exact h
        · exact absurd h.symm hzx
      have hlt : lt x z = true := by
        have := hs
        unfold Sorted at this
        rw [hi] at this
        exact (List.pairwise_append.1 this).2.2 x hxi z (List.mem_singleton.2 rfl)
      have := h2 z hzl _ (List.mem_singleton.2 rfl)
      rw [hlt] at this; cases this
    · rcases o.tot x y rfl rfl e with h | h
      · exact h
      · rw [h] at hle; cases hle
/-- Sorted and cut, good ones are the list as a set. -/
theorem ded_ofS (o : ∀ g, Ord9 lt g) {l m s : List α} (hp : s.Perm m) (hs : s.Pairwise (fun x y => lt y x = false)) (hm : ∀ x, x ∈ m ↔ x ∈ l ∧ good x = true) : ded s = ofS lt good l :=
  ofS_of (o good) (ded_sorted (o _) s hs) (fun x => by rw [mem_ded, hp.mem_iff, hm])
/-- A list is a set just when it is its own set. -/
theorem ofS_eq_iff (o : Ord9 lt good) (l : List α) : l = ofS lt good l ↔ Sorted lt l ∧ ∀ x ∈ l, good x = true :=
  ⟨fun h => ⟨by rw [h]; exact ofS_sorted o l, by rw [h]; exact ofS_good o l⟩, fun h => (ofS_id o h.1 h.2).symm⟩
end Go.Proofs.YtalnfjnfcloonaaDoor

/-
  The library's contract of slices.SortFunc, laid over this translation by the shelf, in plain words.
-/
namespace Go.Proofs
open Go.Shelf
def Tryd.sortAd_ren : Go.Shelf.Ren := ⟨fun | 6 => 36 | 15 => 46 | 14 => 45 | 28 => 59 | 29 => 60 | 20 => 51 | 21 => 52 | 22 => 53 | 23 => 54 | 24 => 55 | 25 => 56 | 26 => 57 | 27 => 58 | 46 => 69 | 47 => 70 | 48 => 71 | 49 => 72 | 50 => 73 | 57 => 79 | n => n, fun | 22 => 22 | 24 => 25 | 25 => 38 | 3 => 3 | 39 => 49 | 0 => 0 | 53 => 73 | 55 => 75 | 4 => 4 | 46 => 67 | 45 => 66 | 50 => 39 | 5 => 5 | 9 => 9 | 66 => 90 | 70 => 94 | 76 => 102 | 77 => 83 | n => n, fun | n => n⟩
theorem Tryd.sortAd : Go.Proofs.SlLaysF0.n6 Tryd.prog Tryd.sortAd_ren := {
  mixed := by kernel_rfl
  f6 := ⟨Tryd.f36.name, by decide, Tryd.func36.trans (congrArg some (by kernel_rfl))⟩
  f14 := ⟨Tryd.f45.name, by decide, Tryd.func45.trans (congrArg some (by kernel_rfl))⟩
  f15 := Tryd.func46.trans (congrArg some (by kernel_rfl))
  f20 := ⟨Tryd.f51.name, by decide, Tryd.func51.trans (congrArg some (by kernel_rfl))⟩
  f21 := ⟨Tryd.f52.name, by decide, Tryd.func52.trans (congrArg some (by kernel_rfl))⟩
  f22 := ⟨Tryd.f53.name, by decide, Tryd.func53.trans (congrArg some (by kernel_rfl))⟩
  f23 := ⟨Tryd.f54.name, by decide, Tryd.func54.trans (congrArg some (by kernel_rfl))⟩
  f24 := ⟨Tryd.f55.name, by decide, Tryd.func55.trans (congrArg some (by kernel_rfl))⟩
  f25 := ⟨Tryd.f56.name, by decide, Tryd.func56.trans (congrArg some (by kernel_rfl))⟩
  f26 := ⟨Tryd.f57.name, by decide, Tryd.func57.trans (congrArg some (by kernel_rfl))⟩
  f27 := ⟨Tryd.f58.name, by decide, Tryd.func58.trans (congrArg some (by kernel_rfl))⟩
  f28 := Tryd.func59.trans (congrArg some (by kernel_rfl))
  f29 := Tryd.func60.trans (congrArg some (by kernel_rfl))
  f46 := ⟨Tryd.f69.name, by decide, Tryd.func69.trans (congrArg some (by kernel_rfl))⟩
  f47 := Tryd.func70.trans (congrArg some (by kernel_rfl))
  f48 := Tryd.func71.trans (congrArg some (by kernel_rfl))
  f49 := ⟨Tryd.f72.name, by decide, Tryd.func72.trans (congrArg some (by kernel_rfl))⟩
  f50 := ⟨Tryd.f73.name, by decide, Tryd.func73.trans (congrArg some (by kernel_rfl))⟩
  f57 := ⟨Tryd.f79.name, by decide, Tryd.func79.trans (congrArg some (by kernel_rfl))⟩
  t0 := Tryd.underlying0
  a0 := Tryd.isAgg0
  z0 := Tryd.sizeOf0
  v0 := Tryd.zeroValue0
  t3 := Tryd.underlying3
  a3 := Tryd.isAgg3
  z3 := Tryd.sizeOf3
  v3 := Tryd.zeroValue3
  t4 := Tryd.underlying4
  a4 := Tryd.isAgg4
  z4 := Tryd.sizeOf4
  v4 := Tryd.zeroValue4
  t5 := Tryd.underlying5
  a5 := Tryd.isAgg5
  z5 := Tryd.sizeOf5
  v5 := Tryd.zeroValue5
  t9 := Tryd.underlying9
  a9 := Tryd.isAgg9
  z9 := Tryd.sizeOf9
  v9 := Tryd.zeroValue9
  t22 := Tryd.underlying22
  a22 := Tryd.isAgg22
  z22 := Tryd.sizeOf22
  v22 := Tryd.zeroValue22
  t25 := Tryd.underlying38
  a25 := Tryd.isAgg38
  z25 := Tryd.sizeOf38
  v25 := Tryd.zeroValue38
  t39 := Tryd.underlying49
  a39 := Tryd.isAgg49
  z39 := Tryd.sizeOf49
  v39 := Tryd.zeroValue49
  t45 := Tryd.underlying66
  a45 := Tryd.isAgg66
  z45 := Tryd.sizeOf66
  v45 := Tryd.zeroValue66
  t46 := Tryd.underlying67
  a46 := Tryd.isAgg67
  z46 := Tryd.sizeOf67
  v46 := Tryd.zeroValue67
  t50 := Tryd.underlying39
  a50 := Tryd.isAgg39
  z50 := Tryd.sizeOf39
  v50 := Tryd.zeroValue39
  t53 := Tryd.underlying73
  a53 := Tryd.isAgg73
  z53 := Tryd.sizeOf73
  v53 := Tryd.zeroValue73
  t55 := Tryd.underlying75
  a55 := Tryd.isAgg75
  z55 := Tryd.sizeOf75
  v55 := Tryd.zeroValue75
  t66 := Tryd.underlying90
  a66 := Tryd.isAgg90
  z66 := Tryd.sizeOf90
  v66 := Tryd.zeroValue90
  t70 := Tryd.underlying94
  a70 := Tryd.isAgg94
  z70 := Tryd.sizeOf94
  v70 := Tryd.zeroValue94
  t76 := Tryd.underlying102
  a76 := Tryd.isAgg102
  z76 := Tryd.sizeOf102
  v76 := Tryd.zeroValue102
  t77 := Tryd.underlying83
  a77 := Tryd.isAgg83
  z77 := Tryd.sizeOf83
  v77 := Tryd.zeroValue83 }
end Go.Proofs

