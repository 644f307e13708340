/-
  Texts joined: SrC, PureSed, Sort.
-/
import Derived.Test.YtalnfjnfcloonaaGreatDoorSrB
import Derived.Test.YtalnfjnfcloonaaGreatDoorPureSet
import Derived.Shelf.SlSortCmp.WholeK
import Derived.Ground.SlsfProg
import Derived.Test.YtalnfjnfcloonaaGreatDoorProg
/-
  The contracts of the document's Of, Pick and Or of layer 11.
-/
namespace Go.Proofs.YtalnfjnfcloonaaGreatDoor
open Go.RowKit
set_option linter.unusedVariables false
set_option linter.unusedSimpArgs false
attribute [local go_sem ↓] ld_addr adsLit_eq
attribute [local go_sem] ldr_addr row?_drewN_eq row?_drew_eq


def ofA (l : List AD) : List AD := ofS ltA goodB l
theorem ofA_succ {l : List AD} {k : Nat} (h : k < l.length) : ofA (l.take (k + 1)) = addS ltA goodB (ofA (l.take k)) l[k] := by
  unfold ofA ofS
  rw [List.take_succ_eq_append_getElem h, List.foldl_append]
  rfl
theorem ofA_good (l : List AD) : ∀ x ∈ ofA l, goodB x = true := ofS_good (ltA_ord goodB) l
theorem mem_ofA (l : List AD) (x : AD) : x ∈ ofA l ↔ x ∈ l ∧ goodB x = true := mem_ofS (ltA_ord goodB) l x
theorem addS_length (l : List AD) (a : AD) : (addS ltA goodB l a).length ≤ l.length + 1 := by
  unfold addS
  split
  · omega
  · unfold insS
    have h := congrArg List.length (List.takeWhile_append_dropWhile (p := (ltA · a)) (l := l))
    simp only [List.length_append, List.length_cons] at h ⊢
    omega
theorem foldl_add_length : ∀ (l acc : List AD), (l.foldl (addS ltA goodB) acc).length ≤ acc.length + l.length
  | [], acc => by simp
  | a :: r, acc => by
    have h1 := foldl_add_length r (addS ltA goodB acc a)
    have h2 := addS_length acc a
    simp only [List.foldl_cons, List.length_cons]
    omega
theorem ofA_length (l : List AD) : (ofA l).length ≤ l.length := by
  have := foldl_add_length l []
  unfold ofA ofS
  simpa using this
theorem ofA_ok {l : List AD} (h : ∀ a ∈ l, adOk a) : ∀ a ∈ ofA l, adOk a := fun a ha => h a ((mem_ofA l a).1 ha).1
/-- A set of one's own. -/
def OwnL (w : World) (base : Nat) (v : Value) (l : List AD) : Prop := w.ownsRow base 36 17 v l.length (adsC l)
theorem OwnL.below {w w' : World} {base : Nat} {v : Value} {l : List AD} (h : OwnL w base v l) (hb : Below w.heap.size w w') : OwnL w' base v l := own_belowS h hb
theorem OwnL.ads {w : World} {base : Nat} {v : Value} {l : List AD} (h : OwnL w base v l) (ho : ∀ a ∈ l, adOk a) : AdsT w v l := ⟨Ads.own ho h, AdT.own h⟩
theorem wpList_app {w : World} {ops : Array Oper} {rest : List Oper} {o : Oper} {a : Act} {Q : Exit → Act → World → Prop} (hgd : o.guard = none) (s x : Operand) (ho : o.op = .call { callee := .builtin .append, args := #[s, x], argTypes := #[22, 22] })
    (base : Nat) (v : Value) (ys zs : List AD) (sv : Value) (hs : a.eval s = v) (hy : ∀ a ∈ ys, adOk a) (hown : w.ownsRow base 36 17 v ys.length (adsC ys)) (hx : a.eval x = sv) (hz : SrcAt w sv zs) (hn : ys.length + zs.length ≤ 1000000000000) (hbase : base ≤ w.heap.size)
    (h : ∀ v' w', w'.ownsRow base 36 17 v' (ys ++ zs).length (adsC (ys ++ zs)) → w.grownBy w' v.ownBlock → wpList Tryz.prog ops Q rest (a.put o.dst v') w') : wpList Tryz.prog ops Q (o :: rest) a w :=
  wpList_plain hgd fun _ hK => wp_app s x ho base v ys zs sv hs hy hown hx hz hn hbase fun v' w' h2 h3 => hK _ _ (h v' w' h2 h3)

set_option maxRecDepth 100000 in
set_option maxHeartbeats 4000000 in
theorem of11_any (v : Value) (l : List AD) (w : World) (ha : Ads w v l) (hll : l.length ≤ 100000) : Calls Tryz.prog 5 #[v] w fun x w' => ∃ v', x = .returned v' ∧ Below w.heap.size w w' ∧ OwnL w' w.heap.size v' (ofA l) := by
  obtain ⟨p, cap, rfl, h1, h2⟩ := ha.len
  have HRA : Hid (l ≠ [] → ∃ b o, p = some ⟨b, o, none⟩ ∧ b < w.heap.size ∧ AdsAt w b o l) := Lib.hid fun hne => by
    obtain ⟨b, o, cap', e, _, _, h3, h4⟩ := ha.parts hne
    simp only [Value.slice.injEq] at e
    exact ⟨b, o, e.1, h3, h4⟩
  have OA := Lib.hid ha.ok
  obtain ⟨n, hn⟩ : ∃ n, n = l.length := ⟨_, rfl⟩
  have hmx : n ≤ 100000 := by omega
  rw [← hn]
  have HN := Lib.hid hn
  have HNL := Lib.hid hmx
  clear ha hn h1 h2 hll
  go_enter Tryz.func5, Tryz.ntmps5
  go_wp2_with fail
  go_loopw [3, 4] (fun u i wr => ∃ k : Nat, k ≤ n ∧ i = .int .i64 k ∧ Hid (OwnL wr w.heap.size u (ofA (l.take k))) ∧ Hid (Below w.heap.size w wr)) (fun _ i _ => n - (intOf i).toNat)
  case atStart => exact ⟨0, by omega, rfl, Lib.hid (World.ownsRow_lit w #[] 0 (Nat.le_refl _) (by unfold maxLen; omega) (by simp)), Lib.hid ((Below.refl _ _).alloc (Nat.le_refl _) _)⟩
  case round =>
    obtain ⟨k, hk, rfl, HO, HB⟩ := hrel
    by_cases hlt : k < n
    · have g1 : k < l.length := by rw [← HN.out]; exact hlt
      obtain ⟨b, o, rfl, hbl, RA⟩ := HRA.out (fun e => by rw [e] at g1; exact absurd g1 (by simp))
      have r1 := row?_below (RA k g1) hbl HB.out
      have hd : decide ((k : Int) < (n : Int)) = true := by simp; omega
      have hw1 : IntKind.i64.wrap ((k : Int) + 1) = (k : Int) + 1 := by simp only [IntKind.wrap_i64]; omega
      have hk1 : (k : Int) < (n : Int) := by omega
      have HS := Lib.hid (ofA_succ g1)
      have hoc := OA.out _ (List.getElem_mem g1)
      generalize l[k] = c at r1 HS hoc
      have HAD := Lib.hid (add11_any w.heap.size _ (ofA (l.take k)) c _ HB.out.size (ofA_ok (fun x hx => OA.out x (List.mem_of_mem_take hx))) HO.out (Nat.le_trans (ofA_length _) (by rw [List.length_take]; have := HNL.out; omega)) (ofA_good _) hoc)
      clear g1 RA hbl hoc
      go_wp2_with (go_at_call 12; (with_reducible refine (HAD.out).mono ?_); rintro x w2 ⟨v', rfl, hb, hown⟩; have H2 := Lib.hid (bstep HB.out hb); have HO2 := Lib.hid hown; clear hb hown r1)
      go_roundw
      case rel => exact ⟨k + 1, by omega, by go_num, Lib.hid (by rw [HS.out]; exact HO2.out), H2⟩
      case measure => simp [intOf]; omega
    · have hd : ¬ (k : Int) < (n : Int) := by omega
      have HD := Lib.hid (show l.take k = l from List.take_of_length_le (by rw [← HN.out]; omega))
      clear hlt
      go_wp2
      go_ret
      exact ⟨_, rfl, HB.out, by have := HO.out; rw [HD.out] at this; exact this⟩

end Go.Proofs.YtalnfjnfcloonaaGreatDoor

/-
  Sets as lists in order, plain: runs of equals cut to one, and that what is sorted and cut so is the list as a set.
-/
namespace Go.Proofs.YtalnfjnfcloonaaGreatDoor
set_option linter.unusedVariables false
set_option linter.unusedSectionVars false
variable {α : Type} [DecidableEq α] {lt : α → α → Bool} {good : α → Bool}

theorem snocInd {P : List α → Prop} (h0 : P []) (h1 : ∀ l a, P l → P (l ++ [a])) (l : List α) : P l := by
  have : ∀ r : List α, P r.reverse := by
    intro r
    induction r with
    | nil => exact h0
    | cons a r ih => rw [List.reverse_cons]; exact h1 _ _ ih
  have := this l.reverse
  rwa [List.reverse_reverse] at this
/-- One more behind a list whose runs are cut. -/
def dedStep (acc : List α) (a : α) : List α := if acc.getLast? = some a then acc else acc ++ [a]
/-- Runs of equals cut to one. -/
def ded (l : List α) : List α := l.foldl dedStep []
theorem ded_snoc (l : List α) (a : α) : ded (l ++ [a]) = dedStep (ded l) a := by unfold ded; rw [List.foldl_append]; rfl
theorem ded_last (l : List α) : (ded l).getLast? = l.getLast? := by
  refine snocInd (P := fun l => (ded l).getLast? = l.getLast?) rfl (fun l a ih => ?_) l
  rw [ded_snoc]
  unfold dedStep
  split
  · rename_i h; rw [h]; simp
  · simp
theorem mem_ded (l : List α) : ∀ x, x ∈ ded l ↔ x ∈ l := by
  refine snocInd (P := fun l => ∀ x, x ∈ ded l ↔ x ∈ l) (fun x => Iff.rfl) (fun l a ih x => ?_) l
  rw [ded_snoc]
  unfold dedStep
  split
  · rename_i h
    rw [ih, List.mem_append, List.mem_singleton]
    have : a ∈ l := by rw [← ih]; exact List.mem_of_getLast? h
    constructor
    · exact Or.inl
    · rintro (h | rfl)
      · exact h
      · exact this
  · simp [ih]
theorem ded_take_succ {l : List α} {k : Nat} (h : k + 1 < l.length) : ded (l.take (k + 2)) = if l[k + 1] = l[k] then ded (l.take (k + 1)) else ded (l.take (k + 1)) ++ [l[k + 1]] := by
  rw [List.take_succ_eq_append_getElem h, ded_snoc]
  unfold dedStep
  rw [ded_last, List.take_succ_eq_append_getElem (show k < l.length by omega)]
  simp only [List.getLast?_append, List.getLast?_singleton, Option.some_or, Option.some.injEq]
  by_cases e : l[k + 1] = l[k]
  · rw [if_pos e, if_pos e.symm]
  · rw [if_neg e, if_neg (fun h => e h.symm)]
/-- No runs: nothing is cut. -/
theorem ded_id {l : List α} : ∀ {k : Nat}, k ≤ l.length → (∀ i (h : i + 1 < l.length), i + 1 < k → l[i + 1] ≠ l[i]) → ded (l.take k) = l.take k
  | 0, _, _ => rfl
  | 1, hk, _ => by
    match l, hk with
    | a :: r, _ => rfl
  | k + 2, hk, h => by
    rw [ded_take_succ (by omega), if_neg (h k (by omega) (by omega)), ded_id (by omega) (fun i hi h2 => h i hi (by omega)), ← List.take_succ_eq_append_getElem]
/-- What is in order, with equals: cut, it is in order. -/
theorem ded_sorted (o : Ord9 lt (fun _ => true)) (l : List α) : l.Pairwise (fun x y => lt y x = false) → Sorted lt (ded l) := by
  refine snocInd (P := fun l => l.Pairwise (fun x y => lt y x = false) → Sorted lt (ded l)) (fun _ => List.Pairwise.nil) (fun l a ih hp => ?_) l
  obtain ⟨h1, _, h2⟩ := List.pairwise_append.1 hp
  have hs := ih h1
  rw [ded_snoc]
  unfold dedStep
  split
  · exact hs
  · rename_i hne
    refine List.pairwise_append.2 ⟨hs, by simp, fun x hx y hy => ?_⟩
    rw [List.mem_singleton] at hy
    subst hy
    have hxl := (mem_ded l x).1 hx
    have hle := h2 x hxl _ (List.mem_singleton.2 rfl)
    by_cases e : x = y
    · exfalso
      subst e
      obtain ⟨z, hz⟩ : ∃ z, (ded l).getLast? = some z := by
        cases hq : (ded l).getLast? with
        | none => rw [List.getLast?_eq_none_iff] at hq; rw [hq] at hx; cases hx
        | some z => exact ⟨z, rfl⟩
      have hzl : z ∈ l := (mem_ded l z).1 (List.mem_of_getLast? hz)
      obtain ⟨init, hi⟩ : ∃ init, ded l = init ++ [z] := by
        obtain ⟨h0, h⟩ := List.getLast?_eq_some_iff.1 hz
        exact ⟨h0, h⟩
      have hzx : z ≠ x := fun e => hne (by rw [hz, e])
      have hxi : x ∈ init := by
        rw [hi, List.mem_append, List.mem_singleton] at hx
        rcases hx with h | h
        · exact h
        · exact absurd h.symm hzx
      have hlt : lt x z = true := by
        have := hs
        unfold Sorted at this
        rw [hi] at this
        exact (List.pairwise_append.1 this).2.2 x hxi z (List.mem_singleton.2 rfl)
      have := h2 z hzl _ (List.mem_singleton.2 rfl)
      rw [hlt] at this; cases this
    · rcases o.tot x y rfl rfl e with h | h
      · exact h
      · rw [h] at hle; cases hle
/-- Sorted and cut, good ones are the list as a set. -/
theorem ded_ofS (o : ∀ g, Ord9 lt g) {l m s : List α} (hp : s.Perm m) (hs : s.Pairwise (fun x y => lt y x = false)) (hm : ∀ x, x ∈ m ↔ x ∈ l ∧ good x = true) : ded s = ofS lt good l :=
  ofS_of (o good) (ded_sorted (o _) s hs) (fun x => by rw [mem_ded, hp.mem_iff, hm])
/-- A list is a set just when it is its own set. -/
theorem ofS_eq_iff (o : Ord9 lt good) (l : List α) : l = ofS lt good l ↔ Sorted lt l ∧ ∀ x ∈ l, good x = true :=
  ⟨fun h => ⟨by rw [h]; exact ofS_sorted o l, by rw [h]; exact ofS_good o l⟩, fun h => (ofS_id o h.1 h.2).symm⟩
end Go.Proofs.YtalnfjnfcloonaaGreatDoor

/-
  The library's contract of slices.SortFunc, laid over this translation by the shelf, in plain words.
-/
namespace Go.Proofs
open Go.Shelf
def Tryz.sortAd_ren : Go.Shelf.Ren := ⟨fun | 6 => 56 | 15 => 74 | 14 => 73 | 28 => 99 | 29 => 100 | 20 => 91 | 21 => 92 | 22 => 93 | 23 => 94 | 24 => 95 | 25 => 96 | 26 => 97 | 27 => 98 | 46 => 116 | 47 => 117 | 48 => 118 | 49 => 119 | 50 => 120 | 57 => 128 | n => n, fun | 22 => 22 | 24 => 36 | 25 => 57 | 3 => 3 | 39 => 93 | 0 => 0 | 53 => 116 | 55 => 83 | 4 => 4 | 46 => 128 | 45 => 127 | 50 => 64 | 5 => 5 | 9 => 9 | 66 => 146 | 70 => 150 | 76 => 156 | 77 => 85 | n => n, fun | n => n⟩
theorem Tryz.sortAd : Go.Proofs.SlLaysF0.n6 Tryz.prog Tryz.sortAd_ren := {
  mixed := by kernel_rfl
  f6 := ⟨Tryz.f56.name, by decide, Tryz.func56.trans (congrArg some (by kernel_rfl))⟩
  f14 := ⟨Tryz.f73.name, by decide, Tryz.func73.trans (congrArg some (by kernel_rfl))⟩
  f15 := Tryz.func74.trans (congrArg some (by kernel_rfl))
  f20 := ⟨Tryz.f91.name, by decide, Tryz.func91.trans (congrArg some (by kernel_rfl))⟩
  f21 := ⟨Tryz.f92.name, by decide, Tryz.func92.trans (congrArg some (by kernel_rfl))⟩
  f22 := ⟨Tryz.f93.name, by decide, Tryz.func93.trans (congrArg some (by kernel_rfl))⟩
  f23 := ⟨Tryz.f94.name, by decide, Tryz.func94.trans (congrArg some (by kernel_rfl))⟩
  f24 := ⟨Tryz.f95.name, by decide, Tryz.func95.trans (congrArg some (by kernel_rfl))⟩
  f25 := ⟨Tryz.f96.name, by decide, Tryz.func96.trans (congrArg some (by kernel_rfl))⟩
  f26 := ⟨Tryz.f97.name, by decide, Tryz.func97.trans (congrArg some (by kernel_rfl))⟩
  f27 := ⟨Tryz.f98.name, by decide, Tryz.func98.trans (congrArg some (by kernel_rfl))⟩
  f28 := Tryz.func99.trans (congrArg some (by kernel_rfl))
  f29 := Tryz.func100.trans (congrArg some (by kernel_rfl))
  f46 := ⟨Tryz.f116.name, by decide, Tryz.func116.trans (congrArg some (by kernel_rfl))⟩
  f47 := Tryz.func117.trans (congrArg some (by kernel_rfl))
  f48 := Tryz.func118.trans (congrArg some (by kernel_rfl))
  f49 := ⟨Tryz.f119.name, by decide, Tryz.func119.trans (congrArg some (by kernel_rfl))⟩
  f50 := ⟨Tryz.f120.name, by decide, Tryz.func120.trans (congrArg some (by kernel_rfl))⟩
  f57 := ⟨Tryz.f128.name, by decide, Tryz.func128.trans (congrArg some (by kernel_rfl))⟩
  t0 := Tryz.underlying0
  a0 := Tryz.isAgg0
  z0 := Tryz.sizeOf0
  v0 := Tryz.zeroValue0
  t3 := Tryz.underlying3
  a3 := Tryz.isAgg3
  z3 := Tryz.sizeOf3
  v3 := Tryz.zeroValue3
  t4 := Tryz.underlying4
  a4 := Tryz.isAgg4
  z4 := Tryz.sizeOf4
  v4 := Tryz.zeroValue4
  t5 := Tryz.underlying5
  a5 := Tryz.isAgg5
  z5 := Tryz.sizeOf5
  v5 := Tryz.zeroValue5
  t9 := Tryz.underlying9
  a9 := Tryz.isAgg9
  z9 := Tryz.sizeOf9
  v9 := Tryz.zeroValue9
  t22 := Tryz.underlying22
  a22 := Tryz.isAgg22
  z22 := Tryz.sizeOf22
  v22 := Tryz.zeroValue22
  t25 := Tryz.underlying57
  a25 := Tryz.isAgg57
  z25 := Tryz.sizeOf57
  v25 := Tryz.zeroValue57
  t39 := Tryz.underlying93
  a39 := Tryz.isAgg93
  z39 := Tryz.sizeOf93
  v39 := Tryz.zeroValue93
  t45 := Tryz.underlying127
  a45 := Tryz.isAgg127
  z45 := Tryz.sizeOf127
  v45 := Tryz.zeroValue127
  t46 := Tryz.underlying128
  a46 := Tryz.isAgg128
  z46 := Tryz.sizeOf128
  v46 := Tryz.zeroValue128
  t50 := Tryz.underlying64
  a50 := Tryz.isAgg64
  z50 := Tryz.sizeOf64
  v50 := Tryz.zeroValue64
  t53 := Tryz.underlying116
  a53 := Tryz.isAgg116
  z53 := Tryz.sizeOf116
  v53 := Tryz.zeroValue116
  t55 := Tryz.underlying83
  a55 := Tryz.isAgg83
  z55 := Tryz.sizeOf83
  v55 := Tryz.zeroValue83
  t66 := Tryz.underlying146
  a66 := Tryz.isAgg146
  z66 := Tryz.sizeOf146
  v66 := Tryz.zeroValue146
  t70 := Tryz.underlying150
  a70 := Tryz.isAgg150
  z70 := Tryz.sizeOf150
  v70 := Tryz.zeroValue150
  t76 := Tryz.underlying156
  a76 := Tryz.isAgg156
  z76 := Tryz.sizeOf156
  v76 := Tryz.zeroValue156
  t77 := Tryz.underlying85
  a77 := Tryz.isAgg85
  z77 := Tryz.sizeOf85
  v77 := Tryz.zeroValue85 }
end Go.Proofs

