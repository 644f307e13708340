/-
  Texts joined: FtT, PureSed, Sort.
-/
import Derived.Test.YtokpogoblnhihaaFtP
import Derived.Test.YtokpogoblnhihaaPureSet
import Derived.Shelf.SlSortCmp.WholeK
import Derived.Ground.SlsfProg
import Derived.Test.YtokpogoblnhihaaProg
/-
  Layer 15: two steps that are one, by the document.
-/
namespace Go.Proofs.Ytokpogoblnhihaa
open Go.RowKit
set_option linter.unusedVariables false
set_option linter.unusedSimpArgs false
attribute [local go_sem ↓] ld_addr st_addr bld_addr ld_sta st_sta bld_sta ld_sp st_sp bld_sp adsLit_eq
attribute [local go_sem] ldr_addr str_addr ldr_sta str_sta ldr_sp str_sp row?_drewN_eq row?_drew_eq

/-- A step's slices. -/
structure SpA (W : World) (us : Nat → Value) (P : SP) : Prop where
  st : StA W (us 1) (us 2) P.st
  full : Ads W (us 3) P.full
  rest : Ads W (us 4) P.rest
  ask : Ads W (us 6) P.ask
theorem SpA.below {W W' : World} {us : Nat → Value} {P : SP} (h : SpA W us P) (hb : Below W.heap.size W W') : SpA W' us P := ⟨h.st.below hb, h.full.below hb, h.rest.below hb, h.ask.below hb⟩
theorem RowsF.spA {W : World} {base : Nat} {us : Nat → Value} {ls : Nat → List AD} {P : SP} (h : RowsF W base J6 us ls) (e1 : ls 1 = P.st.on) (e2 : ls 2 = P.st.off) (e3 : ls 3 = P.full) (e4 : ls 4 = P.rest) (e6 : ls 6 = P.ask) : SpA W us P := by
  have a1 := h.ads (j := 1) (by simp [J6])
  have a2 := h.ads (j := 2) (by simp [J6])
  have a3 := h.ads (j := 3) (by simp [J6])
  have a4 := h.ads (j := 4) (by simp [J6])
  have a6 := h.ads (j := 6) (by simp [J6])
  rw [e1] at a1
  rw [e2] at a2
  rw [e3] at a3
  rw [e4] at a4
  rw [e6] at a6
  exact ⟨⟨a1, a2, (h.own 1 (by simp [J6])).1.cap, (h.own 2 (by simp [J6])).1.cap⟩, a3, a4, a6⟩
theorem sp_st {W : World} {m : Nat} {e g al : Bool} {us : Nat → Value} (h : ObjAt W m (spC e us g al).toArray 28) : row? W m 0 3 = some (stC e (us 1) (us 2)) := obj_re h (A := []) (M := stC e (us 1) (us 2)) (C := [us 3, us 4, .bool g, us 6, .bool al]) rfl rfl rfl
theorem SpA.same {W : World} {a b : Value} {l : List AD} {w : World} (ha : Ads w a l) (hb : Ads w b l) (h : Below w.heap.size w W) : Calls Try.prog 33 #[a, b] W fun x w' => x = .returned (.bool true) ∧ Below W.heap.size W w' := by
  have := same11_any a b l l W (ha.below h) (hb.below h)
  rw [decide_eq_true rfl] at this
  exact this.mono fun x w' ⟨hx, d, hw⟩ => ⟨hx, by rw [hw]; exact bdrewN (Below.refl _ _) _⟩
set_option maxRecDepth 100000 in
set_option maxHeartbeats 4000000 in
theorem rsameStep15_any (P : SP) (us vs : Nat → Value) (w : World) (h : SpA w us P) (k : SpA w vs P) : Calls Try.prog 10 #[.agg (spC P.st.ex us P.grp P.all).toArray, .agg (spC P.st.ex vs P.grp P.all).toArray] w fun x w' => x = .returned (.bool true) ∧ Below w.heap.size w w' := by
  have H0 := Lib.hid (Bx.made w (spC P.st.ex us P.grp P.all).toArray 28 (spC P.st.ex vs P.grp P.all).toArray 28)
  have HS0 : Hid (∀ W, Below w.heap.size w W → Calls Try.prog 17 #[.agg (stC P.st.ex (us 1) (us 2)).toArray, .agg (stC P.st.ex (vs 1) (vs 2)).toArray] W fun x w' => x = .returned (.bool true) ∧ Below W.heap.size W w') := Lib.hid fun W hb => by
    have := rsame15_any P.st P.st (us 1) (us 2) (vs 1) (vs 2) W (h.st.below hb) (k.st.below hb)
    rwa [decide_eq_true rfl] at this
  have HS3 := Lib.hid (fun W hb => SpA.same (W := W) h.full k.full hb)
  have HS4 := Lib.hid (fun W hb => SpA.same (W := W) h.rest k.rest hb)
  have HS6 := Lib.hid (fun W hb => SpA.same (W := W) h.ask k.ask hb)
  clear h k
  generalize P.st.ex = e at *
  generalize P.grp = g at *
  generalize P.all = al at *
  have z : ∀ z : Bool, (z == z) = true := fun z => by simp
  go_enter Try.func10, Try.ntmps10
  go_upto_region 1 with (fail)
  generalize (w.alloc _).alloc _ = W at H0 ⊢
  have r1 := sp_st H0.out.one
  have r2 := sp_st H0.out.two
  obtain ⟨c0, c1, c2, c3, c4, c5, c6, c7, cf⟩ := spC_cells H0.out.one
  obtain ⟨d0, d1, d2, d3, d4, d5, d6, d7, df⟩ := spC_cells H0.out.two
  go_wp2_with (first
    | (go_at_call 17; (with_reducible refine (HS0.out _ H0.out.blw).mono ?_); rintro x w1 ⟨rfl, hb⟩; replace H0 := Lib.hid (H0.out.below hb); clear hb r1 r2 c0 c1 c2 c3 c4 c5 c6 c7 cf d0 d1 d2 d3 d4 d5 d6 d7 df; have r1 := sp_st H0.out.one; have r2 := sp_st H0.out.two; obtain ⟨c0, c1, c2, c3, c4, c5, c6, c7, cf⟩ := spC_cells H0.out.one; obtain ⟨d0, d1, d2, d3, d4, d5, d6, d7, df⟩ := spC_cells H0.out.two)
    | (go_at_call 33; (with_reducible refine (HS3.out _ H0.out.blw).mono ?_); rintro x w1 ⟨rfl, hb⟩; replace H0 := Lib.hid (H0.out.below hb); clear hb r1 r2 c0 c1 c2 c3 c4 c5 c6 c7 cf d0 d1 d2 d3 d4 d5 d6 d7 df; have r1 := sp_st H0.out.one; have r2 := sp_st H0.out.two; obtain ⟨c0, c1, c2, c3, c4, c5, c6, c7, cf⟩ := spC_cells H0.out.one; obtain ⟨d0, d1, d2, d3, d4, d5, d6, d7, df⟩ := spC_cells H0.out.two)
    | (go_at_call 33; (with_reducible refine (HS4.out _ H0.out.blw).mono ?_); rintro x w1 ⟨rfl, hb⟩; replace H0 := Lib.hid (H0.out.below hb); clear hb r1 r2 c0 c1 c2 c3 c4 c5 c6 c7 cf d0 d1 d2 d3 d4 d5 d6 d7 df; have r1 := sp_st H0.out.one; have r2 := sp_st H0.out.two; obtain ⟨c0, c1, c2, c3, c4, c5, c6, c7, cf⟩ := spC_cells H0.out.one; obtain ⟨d0, d1, d2, d3, d4, d5, d6, d7, df⟩ := spC_cells H0.out.two)
    | (go_at_call 33; (with_reducible refine (HS6.out _ H0.out.blw).mono ?_); rintro x w1 ⟨rfl, hb⟩; replace H0 := Lib.hid (H0.out.below hb); clear hb r1 r2 c0 c1 c2 c3 c4 c5 c6 c7 cf d0 d1 d2 d3 d4 d5 d6 d7 df; have r1 := sp_st H0.out.one; have r2 := sp_st H0.out.two; obtain ⟨c0, c1, c2, c3, c4, c5, c6, c7, cf⟩ := spC_cells H0.out.one; obtain ⟨d0, d1, d2, d3, d4, d5, d6, d7, df⟩ := spC_cells H0.out.two))
  go_ret
  exact ⟨rfl, H0.out.blw⟩
end Go.Proofs.Ytokpogoblnhihaa

/-
  Sets as lists in order, plain: runs of equals cut to one, and that what is sorted and cut so is the list as a set.
-/
namespace Go.Proofs.Ytokpogoblnhihaa
set_option linter.unusedVariables false
set_option linter.unusedSectionVars false
variable {α : Type} [DecidableEq α] {lt : α → α → Bool} {good : α → Bool}

theorem snocInd {P : List α → Prop} (h0 : P []) (h1 : ∀ l a, P l → P (l ++ [a])) (l : List α) : P l := by
  have : ∀ r : List α, P r.reverse := by
    intro r
    induction r with
    | nil => exact h0
    | cons a r ih => rw [List.reverse_cons]; exact h1 _ _ ih
  have := this l.reverse
  rwa [List.reverse_reverse] at this
/-- One more behind a list whose runs are cut. -/
def dedStep (acc : List α) (a : α) : List α := if acc.getLast? = some a then acc else acc ++ [a]
/-- Runs of equals cut to one. -/
def ded (l : List α) : List α := l.foldl dedStep []
theorem ded_snoc (l : List α) (a : α) : ded (l ++ [a]) = dedStep (ded l) a := by unfold ded; rw [List.foldl_append]; rfl
theorem ded_last (l : List α) : (ded l).getLast? = l.getLast? := by
  refine snocInd (P := fun l => (ded l).getLast? = l.getLast?) rfl (fun l a ih => ?_) l
  rw [ded_snoc]
  unfold dedStep
  split
  · rename_i h; rw [h]; simp
  · simp
theorem mem_ded (l : List α) : ∀ x, x ∈ ded l ↔ x ∈ l := by
  refine snocInd (P := fun l => ∀ x, x ∈ ded l ↔ x ∈ l) (fun x => Iff.rfl) (fun l a ih x => ?_) l
  rw [ded_snoc]
  unfold dedStep
  split
  · rename_i h
    rw [ih, List.mem_append, List.mem_singleton]
    have : a ∈ l := by rw [← ih]; exact List.mem_of_getLast? h
    constructor
    · exact Or.inl
    · rintro (h | rfl)
      · exact h
      · exact this
  · simp [ih]
theorem ded_take_succ {l : List α} {k : Nat} (h : k + 1 < l.length) : ded (l.take (k + 2)) = if l[k + 1] = l[k] then ded (l.take (k + 1)) else ded (l.take (k + 1)) ++ [l[k + 1]] := by
  rw [List.take_succ_eq_append_getElem h, ded_snoc]
  unfold dedStep
  rw [ded_last, List.take_succ_eq_append_getElem (show k < l.length by omega)]
  simp only [List.getLast?_append, List.getLast?_singleton, Option.some_or, Option.some.injEq]
  by_cases e : l[k + 1] = l[k]
  · rw [if_pos e, if_pos e.symm]
  · rw [if_neg e, if_neg (fun h => e h.symm)]
/-- No runs: nothing is cut. -/
theorem ded_id {l : List α} : ∀ {k : Nat}, k ≤ l.length → (∀ i (h : i + 1 < l.length), i + 1 < k → l[i + 1] ≠ l[i]) → ded (l.take k) = l.take k
  | 0, _, _ => rfl
  | 1, hk, _ => by
    match l, hk with
    | a :: r, _ => rfl
  | k + 2, hk, h => by
    rw [ded_take_succ (by omega), if_neg (h k (by omega) (by omega)), ded_id (by omega) (fun i hi h2 => h i hi (by omega)), ← List.take_succ_eq_append_getElem]
/-- What is in order, with equals: cut, it is in order. -/
theorem ded_sorted (o : Ord9 lt (fun _ => true)) (l : List α) : l.Pairwise (fun x y => lt y x = false) → Sorted lt (ded l) := by
  refine snocInd (P := fun l => l.Pairwise (fun x y => lt y x = false) → Sorted lt (ded l)) (fun _ => List.Pairwise.nil) (fun l a ih hp => ?_) l
  obtain ⟨h1, _, h2⟩ := List.pairwise_append.1 hp
  have hs := ih h1
  rw [ded_snoc]
  unfold dedStep
  split
  · exact hs
  · rename_i hne
    refine List.pairwise_append.2 ⟨hs, by simp, fun x hx y hy => ?_⟩
    rw [List.mem_singleton] at hy
    subst hy
    have hxl := (mem_ded l x).1 hx
    have hle := h2 x hxl _ (List.mem_singleton.2 rfl)
    by_cases e : x = y
    · exfalso
      subst e
      obtain ⟨z, hz⟩ : ∃ z, (ded l).getLast? = some z := by
        cases hq : (ded l).getLast? with
        | none => rw [List.getLast?_eq_none_iff] at hq; rw [hq] at hx; cases hx
        | some z => exact ⟨z, rfl⟩
      have hzl : z ∈ l := (mem_ded l z).1 (List.mem_of_getLast? hz)
      obtain ⟨init, hi⟩ : ∃ init, ded l = init ++ [z] := by
        obtain ⟨h0, h⟩ := List.getLast?_eq_some_iff.1 hz
        exact ⟨h0, h⟩
      have hzx : z ≠ x := fun e => hne (by rw [hz, e])
      have hxi : x ∈ init := by
        rw [hi, List.mem_append, List.mem_singleton] at hx
        rcases hx with h | h
        · exact h
        · exact absurd h.symm hzx
      have hlt : lt x z = true := by
        have := hs
        unfold Sorted at this
        rw [hi] at this
        exact (List.pairwise_append.1 this).2.2 x hxi z (List.mem_singleton.2 rfl)
      have := h2 z hzl _ (List.mem_singleton.2 rfl)
      rw [hlt] at this; cases this
    · rcases o.tot x y rfl rfl e with h | h
      · exact h
      · rw [h] at hle; cases hle
/-- Sorted and cut, good ones are the list as a set. -/
theorem ded_ofS (o : ∀ g, Ord9 lt g) {l m s : List α} (hp : s.Perm m) (hs : s.Pairwise (fun x y => lt y x = false)) (hm : ∀ x, x ∈ m ↔ x ∈ l ∧ good x = true) : ded s = ofS lt good l :=
  ofS_of (o good) (ded_sorted (o _) s hs) (fun x => by rw [mem_ded, hp.mem_iff, hm])
end Go.Proofs.Ytokpogoblnhihaa

/-
  The library's contract of slices.SortFunc, laid over this translation by the shelf, in plain words.
-/
namespace Go.Proofs
open Go.Shelf
def Try.sortAd_ren : Go.Shelf.Ren := ⟨fun | 6 => 58 | 15 => 64 | 14 => 63 | 28 => 74 | 29 => 75 | 20 => 66 | 21 => 67 | 22 => 68 | 23 => 69 | 24 => 70 | 25 => 71 | 26 => 72 | 27 => 73 | 46 => 76 | 47 => 77 | 48 => 78 | 49 => 79 | 50 => 80 | 57 => 81 | n => n, fun | 22 => 22 | 24 => 37 | 25 => 57 | 3 => 3 | 39 => 66 | 0 => 0 | 53 => 77 | 55 => 79 | 4 => 4 | 46 => 71 | 45 => 70 | 50 => 59 | 5 => 5 | 9 => 9 | 66 => 80 | 70 => 84 | 76 => 86 | 77 => 87 | n => n, fun | n => n⟩
theorem Try.sortAd : Go.Proofs.SlLaysF0.n6 Try.prog Try.sortAd_ren := {
  mixed := by kernel_rfl
  f6 := ⟨Try.f58.name, by decide, Try.func58.trans (congrArg some (by kernel_rfl))⟩
  f14 := ⟨Try.f63.name, by decide, Try.func63.trans (congrArg some (by kernel_rfl))⟩
  f15 := Try.func64.trans (congrArg some (by kernel_rfl))
  f20 := ⟨Try.f66.name, by decide, Try.func66.trans (congrArg some (by kernel_rfl))⟩
  f21 := ⟨Try.f67.name, by decide, Try.func67.trans (congrArg some (by kernel_rfl))⟩
  f22 := ⟨Try.f68.name, by decide, Try.func68.trans (congrArg some (by kernel_rfl))⟩
  f23 := ⟨Try.f69.name, by decide, Try.func69.trans (congrArg some (by kernel_rfl))⟩
  f24 := ⟨Try.f70.name, by decide, Try.func70.trans (congrArg some (by kernel_rfl))⟩
  f25 := ⟨Try.f71.name, by decide, Try.func71.trans (congrArg some (by kernel_rfl))⟩
  f26 := ⟨Try.f72.name, by decide, Try.func72.trans (congrArg some (by kernel_rfl))⟩
  f27 := ⟨Try.f73.name, by decide, Try.func73.trans (congrArg some (by kernel_rfl))⟩
  f28 := Try.func74.trans (congrArg some (by kernel_rfl))
  f29 := Try.func75.trans (congrArg some (by kernel_rfl))
  f46 := ⟨Try.f76.name, by decide, Try.func76.trans (congrArg some (by kernel_rfl))⟩
  f47 := Try.func77.trans (congrArg some (by kernel_rfl))
  f48 := Try.func78.trans (congrArg some (by kernel_rfl))
  f49 := ⟨Try.f79.name, by decide, Try.func79.trans (congrArg some (by kernel_rfl))⟩
  f50 := ⟨Try.f80.name, by decide, Try.func80.trans (congrArg some (by kernel_rfl))⟩
  f57 := ⟨Try.f81.name, by decide, Try.func81.trans (congrArg some (by kernel_rfl))⟩
  t0 := Try.underlying0
  a0 := Try.isAgg0
  z0 := Try.sizeOf0
  v0 := Try.zeroValue0
  t3 := Try.underlying3
  a3 := Try.isAgg3
  z3 := Try.sizeOf3
  v3 := Try.zeroValue3
  t4 := Try.underlying4
  a4 := Try.isAgg4
  z4 := Try.sizeOf4
  v4 := Try.zeroValue4
  t5 := Try.underlying5
  a5 := Try.isAgg5
  z5 := Try.sizeOf5
  v5 := Try.zeroValue5
  t9 := Try.underlying9
  a9 := Try.isAgg9
  z9 := Try.sizeOf9
  v9 := Try.zeroValue9
  t22 := Try.underlying22
  a22 := Try.isAgg22
  z22 := Try.sizeOf22
  v22 := Try.zeroValue22
  t25 := Try.underlying57
  a25 := Try.isAgg57
  z25 := Try.sizeOf57
  v25 := Try.zeroValue57
  t39 := Try.underlying66
  a39 := Try.isAgg66
  z39 := Try.sizeOf66
  v39 := Try.zeroValue66
  t45 := Try.underlying70
  a45 := Try.isAgg70
  z45 := Try.sizeOf70
  v45 := Try.zeroValue70
  t46 := Try.underlying71
  a46 := Try.isAgg71
  z46 := Try.sizeOf71
  v46 := Try.zeroValue71
  t50 := Try.underlying59
  a50 := Try.isAgg59
  z50 := Try.sizeOf59
  v50 := Try.zeroValue59
  t53 := Try.underlying77
  a53 := Try.isAgg77
  z53 := Try.sizeOf77
  v53 := Try.zeroValue77
  t55 := Try.underlying79
  a55 := Try.isAgg79
  z55 := Try.sizeOf79
  v55 := Try.zeroValue79
  t66 := Try.underlying80
  a66 := Try.isAgg80
  z66 := Try.sizeOf80
  v66 := Try.zeroValue80
  t70 := Try.underlying84
  a70 := Try.isAgg84
  z70 := Try.sizeOf84
  v70 := Try.zeroValue84
  t76 := Try.underlying86
  a76 := Try.isAgg86
  z76 := Try.sizeOf86
  v76 := Try.zeroValue86
  t77 := Try.underlying87
  a77 := Try.isAgg87
  z77 := Try.sizeOf87
  v77 := Try.zeroValue87 }
end Go.Proofs

