/-
  The contract of srcs' Parse: the walk.
-/
import Derived.Test.YtalnfjnfcloonaaGreatDoorSeT
namespace Go.Proofs.YtalnfjnfcloonaaGreatDoor
open Go.RowKit
set_option linter.unusedVariables false
set_option linter.unusedSimpArgs false
attribute [local go_sem ↓] ld_addr st_addr adsLit_eq
attribute [local go_sem] ldr_addr str_addr row?_drewN_eq row?_drew_eq Oper.semAt_some

/-- What Parse hands back. -/
def ParsedL (w : World) (o : Option (List AD)) (x : Ending) (w' : World) : Prop :=
  Below w.heap.size w w' ∧ match o with | some l => ∃ v', x = .returned (.tuple #[v', .int .i64 0]) ∧ OwnL w' w.heap.size v' l | none => x = .returned (.tuple #[.slice none 0 0, .int .i64 2])

/-- What is known between two rounds: the results' cells, the box of what has come, and what it owns. -/
def PI (w : World) (B0 : Nat) (ps : List (List UInt8)) (W : World) : Prop :=
  ∃ v l, Below w.heap.size w W ∧ B0 ≤ W.heap.size ∧ ObjAt W w.heap.size #[.slice none 0 0] 22 ∧ ObjAt W (w.heap.size + 1) #[.int .i64 0] 26 ∧ ObjAt W (w.heap.size + 1 + 1) #[v] 22 ∧ OwnL W B0 v l ∧ collP ps = some l
/-- What is known where a text was none. -/
def PX (w : World) (ps : List (List UInt8)) (W : World) : Prop :=
  Below w.heap.size w W ∧ ObjAt W w.heap.size #[.slice none 0 0] 22 ∧ ObjAt W (w.heap.size + 1) #[.int .i64 2] 26 ∧ collP ps = none
theorem obj_grown {W W' : World} {m : Nat} {L : Array Value} {T : TypeId} {row : Option Nat} (h : ObjAt W m L T) (hg : W.grownBy W' row) (hr : row ≠ some m) : ObjAt W' m L T :=
  (hg.block m h.lt (fun e => hr e.symm)).trans h
theorem own_kept3 {W W' : World} {base : Nat} {v : Value} {l : List AD} {row : Option Nat} (h : OwnL W base v l) (hg : W.grownBy W' row) (hr : ∀ g, v.ownBlock = some g → row ≠ some g) : OwnL W' base v l := by
  obtain ⟨h1, h2 | ⟨g, cap, cur, e1, e2, e3, e4⟩⟩ := h
  · exact ⟨h1, .inl h2⟩
  · exact ⟨h1, .inr ⟨g, cap, cur, e1, e2, (hg.block g (Array.getElem?_eq_some_iff.1 e3).1 (fun e => hr g (by rw [e1]; rfl) e.symm)).trans e3, e4⟩⟩
theorem PI.grown {w W W' : World} {B0 b1 : Nat} {ps : List (List UInt8)} {row : Option Nat} (hb1 : w.heap.size + 2 < b1) (hb2 : b1 < B0) (h : PI w B0 ps W) (hg : W.grownBy W' row) (hr : ∀ r, row = some r → r = b1 ∨ (B0 ≤ r ∧ ∃ o : Obj, W.heap[r]? = some o ∧ o.isCells = false)) : PI w B0 ps W' := by
  obtain ⟨v, l, k1, k2, k3, k4, k5, k6, k7⟩ := h
  have far : ∀ j, j ≤ w.heap.size + 2 → row ≠ some j := fun j hj e => by
    rcases hr j e with h | ⟨h, _⟩ <;> omega
  refine ⟨v, l, k1.grown hg (by omega) (fun k e => by rcases hr k e with h | ⟨h, _⟩ <;> omega), Nat.le_trans k2 hg.size, obj_grown k3 hg (far _ (by omega)), obj_grown k4 hg (far _ (by omega)), obj_grown k5 hg (far _ (by omega)), own_kept3 k6 hg (fun g hv e => ?_), k7⟩
  rcases hr g e with h | ⟨h, o, ho, hc⟩
  · have := (own_geS k6 g hv).1; omega
  · obtain ⟨_, ⟨h2, _⟩ | ⟨g', cap, cur, e1, e2, e3, e4⟩⟩ := k6
    · rw [h2] at hv; cases hv
    · rw [e1] at hv; cases hv
      rw [e3] at ho; cases ho; cases hc
theorem PX.grown {w W W' : World} {B0 b1 : Nat} {ps : List (List UInt8)} {row : Option Nat} (hb1 : w.heap.size + 2 < b1) (hb2 : b1 < B0) (h : PX w ps W) (hg : W.grownBy W' row) (hr : ∀ r, row = some r → r = b1 ∨ (B0 ≤ r ∧ ∃ o : Obj, W.heap[r]? = some o ∧ o.isCells = false)) : PX w ps W' := by
  obtain ⟨k1, k3, k4, k7⟩ := h
  have far : ∀ j, j ≤ w.heap.size + 2 → row ≠ some j := fun j hj e => by
    rcases hr j e with h | ⟨h, _⟩ <;> omega
  exact ⟨k1.grown hg k1.size (fun k e => by rcases hr k e with h | ⟨h, _⟩ <;> omega), obj_grown k3 hg (far _ (by omega)), obj_grown k4 hg (far _ (by omega)), k7⟩
theorem others_below {W W' : World} (h : Below W.heap.size W W') : KeepsOthers W W' := ⟨h.size, fun k o hk _ => (h.block k (Array.getElem?_eq_some_iff.1 hk).1).trans hk⟩
theorem obj_setCell {W : World} {m : Nat} {u : Value} {T : TypeId} (h : ObjAt W m #[u] T) (v : Value) : ObjAt (W.setCell ⟨m, 0, none⟩ v) m #[v] T := by
  have := h.set 0 v
  simpa using this
/-- A round that goes on. -/
theorem PI.step {w W W3 w1 : World} {B0 b1 b2 b3 : Nat} {ps : List (List UInt8)} {x : List UInt8} {v v' : Value} {l : List AD} {a : AD} (h1 : w.heap.size + 2 < b1 ∧ b1 < B0) (h2 : w.heap.size + 2 < b2 ∧ b2 < B0) (h3 : w.heap.size + 2 < b3 ∧ b3 < B0)
    (k1 : Below w.heap.size w W) (k2 : B0 ≤ W.heap.size) (k3 : ObjAt W w.heap.size #[.slice none 0 0] 22) (k4 : ObjAt W (w.heap.size + 1) #[.int .i64 0] 26) (k5 : ObjAt W (w.heap.size + 1 + 1) #[v] 22) (k6 : OwnL W B0 v l)
    (hb : Below W.heap.size W W3) (hg : W3.grownBy w1 v.ownBlock) (ho : OwnL w1 B0 v' (l ++ [a])) (hc : collP (ps ++ [x]) = some (l ++ [a])) :
    KeepsOthers W (w1.setCell ⟨w.heap.size + 1 + 1, 0, none⟩ v') ∧ Keep3 b1 b2 b3 W (w1.setCell ⟨w.heap.size + 1 + 1, 0, none⟩ v') ∧ PI w B0 (ps ++ [x]) (w1.setCell ⟨w.heap.size + 1 + 1, 0, none⟩ v') := by
  have hge := fun g hv => own_geS k6 g hv
  have far : ∀ j, j < B0 → v.ownBlock ≠ some j := fun j hj e => by have := (hge j e).1; omega
  have z1 : ∀ {m L T}, ObjAt W m L T → m < B0 → ObjAt w1 m L T := fun h hm => obj_grown (h.below hb h.lt) hg (far _ hm)
  have hb1 : Below w.heap.size w w1 := (k1.trans (hb.mono k1.size)).grown hg (Nat.le_trans k1.size hb.size) (fun k e => by have := (hge k e).1; omega)
  have st : ∀ j, j ≠ w.heap.size + 1 + 1 → (w1.setCell ⟨w.heap.size + 1 + 1, 0, none⟩ v').heap[j]? = w1.heap[j]? := fun j hj => Below.heap_setCell _ _ _ _ hj
  have kb : ∀ b, w.heap.size + 2 < b → b < B0 → (w1.setCell ⟨w.heap.size + 1 + 1, 0, none⟩ v').heap[b]? = W.heap[b]? := fun b hb2 hbB =>
    (st b (by omega)).trans ((hg.block b (by have := hb.size; omega) (fun e => far b hbB e.symm)).trans (hb.block b (by omega)))
  have ko : KeepsOthers W3 w1 := KeepsOthers.of_grownBy hg (fun j o e hj => by
    obtain ⟨_, ⟨q, _⟩ | ⟨g', cap, cur, e1, e2, e3, e4⟩⟩ := own_belowS k6 hb
    · rw [q] at e; cases e
    · rw [e1] at e; cases e
      rw [e3] at hj; cases hj; rfl)
  refine ⟨((others_below hb).trans ko).trans (KeepsOthers.setCell _ _ _), ⟨kb _ h1.1 h1.2, kb _ h2.1 h2.2, kb _ h3.1 h3.2⟩, v', l ++ [a], hb1.setCell (p := ⟨w.heap.size + 1 + 1, 0, none⟩) (by simp; omega) _, ?_, ?_, ?_, ?_, ?_, hc⟩
  · have := hb.size; have := hg.size
    have e : (w1.setCell ⟨w.heap.size + 1 + 1, 0, none⟩ v').heap.size = w1.heap.size := by simp [World.setCell]
    omega
  · exact (st _ (by omega)).trans (z1 k3 (by omega))
  · exact (st _ (by omega)).trans (z1 k4 (by omega))
  · exact obj_setCell (z1 k5 (by omega)) v'
  · exact own_kept3 ho (grown_set w1 _ v') (fun g hv e => by have := (own_geS ho g hv).1; cases e; omega)
/-- A round that leaves. -/
theorem PX.step {w W W2 : World} {B0 : Nat} {ps : List (List UInt8)} {x : List UInt8} (hB0 : w.heap.size + 2 < B0)
    (k1 : Below w.heap.size w W) (k2 : B0 ≤ W.heap.size) (k3 : ObjAt W w.heap.size #[.slice none 0 0] 22) (k4 : ObjAt W (w.heap.size + 1) #[.int .i64 0] 26)
    (hb : Below W.heap.size W W2) (hc : collP (ps ++ [x]) = none) :
    KeepsOthers W ((W2.setCell ⟨w.heap.size, 0, none⟩ (.slice none 0 0)).setCell ⟨w.heap.size + 1, 0, none⟩ (.int .i64 2)) ∧ PX w (ps ++ [x]) ((W2.setCell ⟨w.heap.size, 0, none⟩ (.slice none 0 0)).setCell ⟨w.heap.size + 1, 0, none⟩ (.int .i64 2)) := by
  have o1 := obj_setCell (k3.below hb k3.lt) (.slice none 0 0)
  have o2 : ObjAt (W2.setCell ⟨w.heap.size, 0, none⟩ (.slice none 0 0)) (w.heap.size + 1) #[.int .i64 0] 26 := (k4.below hb k4.lt).other ⟨w.heap.size, 0, none⟩ _ (by simp)
  refine ⟨((others_below hb).trans (KeepsOthers.setCell _ _ _)).trans (KeepsOthers.setCell _ _ _), ((k1.trans (hb.mono k1.size)).setCell (p := ⟨w.heap.size, 0, none⟩) (Nat.le_refl _) _).setCell (p := ⟨w.heap.size + 1, 0, none⟩) (by simp) _, o1.other ⟨w.heap.size + 1, 0, none⟩ _ (by simp), obj_setCell o2 _, hc⟩

theorem isSet_iff (l : List AD) : isSet l = true ↔ (Sorted ltA l ∧ ∀ x ∈ l, goodB x = true) := by
  unfold isSet
  rw [decide_eq_true_iff]
  exact ofS_eq_iff (ltA_ord goodB) l
set_option maxRecDepth 100000 in
/-- The worlds that Parse makes ahead of its rounds. -/
theorem first_world (w : World) (s : List UInt8) : PI w (w.heap.size + 6) [] ((((((w.alloc (.cells #[.slice none 0 0] 22)).alloc (.cells #[.int .i64 0] 26)).alloc (.cells #[.slice none 0 0] 22)).alloc (.cells #[.string (Str s)] 9)).alloc (.cells #[.string ⟨#[44]⟩] 9)).alloc (.cells #[.int .i64 0] 3)) ∧
    SpB (w.heap.size + 1 + 1 + 1) (w.heap.size + 1 + 1 + 1 + 1) (w.heap.size + 1 + 1 + 1 + 2) ((((((w.alloc (.cells #[.slice none 0 0] 22)).alloc (.cells #[.int .i64 0] 26)).alloc (.cells #[.slice none 0 0] 22)).alloc (.cells #[.string (Str s)] 9)).alloc (.cells #[.string ⟨#[44]⟩] 9)).alloc (.cells #[.int .i64 0] 3)) s ∧
    ((((((w.alloc (.cells #[.slice none 0 0] 22)).alloc (.cells #[.int .i64 0] 26)).alloc (.cells #[.slice none 0 0] 22)).alloc (.cells #[.string (Str s)] 9)).alloc (.cells #[.string ⟨#[44]⟩] 9)).alloc (.cells #[.int .i64 0] 3)).heap.size = w.heap.size + 6 := by
  obtain ⟨V1, hV1⟩ : ∃ V, V = w.alloc (.cells #[.slice none 0 0] 22) := ⟨_, rfl⟩
  obtain ⟨V2, hV2⟩ : ∃ V, V = V1.alloc (.cells #[.int .i64 0] 26) := ⟨_, rfl⟩
  obtain ⟨V3, hV3⟩ : ∃ V, V = V2.alloc (.cells #[.slice none 0 0] 22) := ⟨_, rfl⟩
  have z1 : V1.heap.size = w.heap.size + 1 := by rw [hV1, World.size_alloc]
  have z2 : V2.heap.size = w.heap.size + 1 + 1 := by rw [hV2, World.size_alloc, z1]
  have z3 : V3.heap.size = w.heap.size + 1 + 1 + 1 := by rw [hV3, World.size_alloc, z2]
  have o1 : ObjAt V1 w.heap.size #[.slice none 0 0] 22 := by rw [hV1]; exact ObjAt.made w _ _
  have o2 : ObjAt V2 (w.heap.size + 1) #[.int .i64 0] 26 := by rw [hV2, ← z1]; exact ObjAt.made V1 _ _
  have o3 : ObjAt V3 (w.heap.size + 1 + 1) #[.slice none 0 0] 22 := by rw [hV3, ← z2]; exact ObjAt.made V2 _ _
  have b3 : Below w.heap.size w V3 := by rw [hV3, hV2, hV1]; exact (((Below.refl _ _).alloc (Nat.le_refl _) _).alloc (by rw [World.size_alloc]; omega) _).alloc (by rw [World.size_alloc, World.size_alloc]; omega) _
  have p1 : ObjAt V3 w.heap.size #[.slice none 0 0] 22 := by rw [hV3, hV2]; exact (o1.alloc _).alloc _
  have p2 : ObjAt V3 (w.heap.size + 1) #[.int .i64 0] 26 := by rw [hV3]; exact o2.alloc _
  rw [← hV1, ← hV2, ← hV3]
  have sp := sp_made s V3
  rw [z3] at sp
  refine ⟨⟨.slice none 0 0, [], ((b3.alloc (by omega) _).alloc (by rw [World.size_alloc]; omega) _).alloc (by rw [World.size_alloc, World.size_alloc]; omega) _, by simp only [World.size_alloc]; omega, ((p1.alloc _).alloc _).alloc _, ((p2.alloc _).alloc _).alloc _, ((o3.alloc _).alloc _).alloc _, World.ownsRow_nil _ _ _ _, rfl⟩, sp, by simp only [World.size_alloc]; omega⟩
/-- Parse's two results. -/
theorem parse_res (tmps : Array Value) (b : Nat) (u e : Value) (h2 : tmps.getD 2 undef = .pointer (some ⟨b, 0, none⟩)) (h3 : tmps.getD 3 undef = .pointer (some ⟨b + 1, 0, none⟩)) (w : World) (c1 : w.cell? ⟨b, 0, none⟩ = some u) (c2 : w.cell? ⟨b + 1, 0, none⟩ = some e) :
    (results Tryz.f7 tmps).run Tryz.prog w = .ok (.tuple #[u, e]) w := by
  have h2' : tmps[2]?.getD undef = .pointer (some ⟨b, 0, none⟩) := by simpa using h2
  have h3' : tmps[3]?.getD undef = .pointer (some ⟨b + 1, 0, none⟩) := by simpa using h3
  simp [results, Tryz.results7, h2', h3', asAddr, go_sem, c1, c2]
theorem parse_fin0 {n : Nat} {R : Ending → World → Prop} (tmps : Array Value) (b : Nat) (u e : Value) (h2 : tmps.getD 2 undef = .pointer (some ⟨b, 0, none⟩)) (h3 : tmps.getD 3 undef = .pointer (some ⟨b + 1, 0, none⟩)) (W : World) (o1 : ObjAt W b #[u] 22) (o2 : ObjAt W (b + 1) #[e] 26)
    (hR : R (.returned (.tuple #[u, e])) W) : bodyPostM Fence.wide n Tryz.prog Tryz.f7 R .ret { tmps := tmps, defers := [] } W :=
  ⟨_, parse_res tmps b u e h2 h3 W (o1.cell 0) (o2.cell 0), hR⟩
theorem parse_fin {n : Nat} {R : Ending → World → Prop} (tmps : Array Value) (b D : Nat) (u e : Value) (h2 : tmps.getD 2 undef = .pointer (some ⟨b, 0, none⟩)) (h3 : tmps.getD 3 undef = .pointer (some ⟨b + 1, 0, none⟩)) (W : World) (o1 : ObjAt W b #[u] 22) (o2 : ObjAt W (b + 1) #[e] 26) (hD : b + 1 < D) (hd : W.heap[D]? = some (.deferred (some [])))
    (hR : R (.returned (.tuple #[u, e])) (W.putObj D (.deferred none))) : bodyPostM Fence.wide n Tryz.prog Tryz.f7 R .ret { tmps := tmps, defers := [{ target := .collected D, args := #[] }] } W := by
  refine ⟨by simp, .inl ⟨_, _, rfl, run_takeDeferred hd, ?_⟩⟩
  exact ⟨_, parse_res tmps b u e h2 h3 _ ((World.cell?_of_block (a := ⟨b, 0, none⟩) (World.putObj_heap_other (show b ≠ D by omega))).trans (o1.cell 0)) ((World.cell?_of_block (a := ⟨b + 1, 0, none⟩) (World.putObj_heap_other (show b + 1 ≠ D by omega))).trans (o2.cell 0)), hR⟩
/-- What a round that goes on hands to the walk. -/
theorem PI.mid {w W : World} {p : Option Addr} {cap : Nat} {l : List AD} {a : AD} (ho : adOk a) (k1 : Below w.heap.size w W) (k2 : w.heap.size + 6 ≤ W.heap.size) (k5 : ObjAt W (w.heap.size + 1 + 1) #[.slice p l.length cap] 22) (k6 : OwnL W (w.heap.size + 6) (.slice p l.length cap) l) (w1 : World) (hb : Below W.heap.size W w1) :
    (aggW (w1.alloc (.cells #[.bool false, .int .u8 0, .int .u8 0, .int .u8 0, .int .u8 0, .int .u8 0, .int .u8 0, .int .u8 0, .int .u8 0, .int .u8 0, .int .u8 0, .int .u8 0, .int .u8 0, .int .u8 0, .int .u8 0, .int .u8 0, .int .u8 0] 36)) w1.heap.size (adC a)).cell? ⟨w.heap.size + 1 + 1, 0, none⟩ = some (.slice p l.length cap) ∧
    row? (aggW (w1.alloc (.cells #[.bool false, .int .u8 0, .int .u8 0, .int .u8 0, .int .u8 0, .int .u8 0, .int .u8 0, .int .u8 0, .int .u8 0, .int .u8 0, .int .u8 0, .int .u8 0, .int .u8 0, .int .u8 0, .int .u8 0, .int .u8 0, .int .u8 0] 36)) w1.heap.size (adC a)) w1.heap.size 0 17 = some (adC a) ∧
    (aggW (w1.alloc (.cells #[.bool false, .int .u8 0, .int .u8 0, .int .u8 0, .int .u8 0, .int .u8 0, .int .u8 0, .int .u8 0, .int .u8 0, .int .u8 0, .int .u8 0, .int .u8 0, .int .u8 0, .int .u8 0, .int .u8 0, .int .u8 0, .int .u8 0] 36)) w1.heap.size (adC a)).ownsRow (w.heap.size + 6) 36 17 (.slice p l.length cap) l.length (adsC l) ∧
    w.heap.size + 6 ≤ (aggW (w1.alloc (.cells #[.bool false, .int .u8 0, .int .u8 0, .int .u8 0, .int .u8 0, .int .u8 0, .int .u8 0, .int .u8 0, .int .u8 0, .int .u8 0, .int .u8 0, .int .u8 0, .int .u8 0, .int .u8 0, .int .u8 0, .int .u8 0, .int .u8 0] 36)) w1.heap.size (adC a)).heap.size ∧
    Below W.heap.size W (aggW (w1.alloc (.cells #[.bool false, .int .u8 0, .int .u8 0, .int .u8 0, .int .u8 0, .int .u8 0, .int .u8 0, .int .u8 0, .int .u8 0, .int .u8 0, .int .u8 0, .int .u8 0, .int .u8 0, .int .u8 0, .int .u8 0, .int .u8 0, .int .u8 0] 36)) w1.heap.size (adC a)) := by
  obtain ⟨q1, q2⟩ := box_put w1 a ho
  have hbb := hb.trans (q2.mono hb.size)
  exact ⟨(k5.below hbb k5.lt).cell 0, box_row q1 ho, OwnL.below k6 hbb, Nat.le_trans k2 hbb.size, hbb⟩

set_option maxRecDepth 100000 in
set_option maxHeartbeats 4000000 in
theorem sparse_any (s : List UInt8) (hs : s.length ≤ 1000000) (w : World) (hE : Env w) : Calls Tryz.prog 7 #[.string (Str s)] w (ParsedL w (parseL s)) := by
  refine (callsIn_wide (n := 5)).1 ?_
  have HE := Lib.hid hE
  clear hE
  by_cases h45 : s = [45]
  · subst h45
    have hpl : parseL [45] = some [] := rfl
    rw [hpl]
    clear hpl
    rw [show Str [45] = ⟨#[45]⟩ from rfl]
    refine callsIn_of_wp_marks Tryz.func7 rfl trivial ?_ rfl
    simp only [Tryz.ntmps7, List.size_toArray, List.length_cons, List.length_nil, Nat.reduceAdd, Nat.reduceSub, Array.replicate_succ, Array.replicate_zero, List.push_toArray, List.append_toArray, List.nil_append, List.cons_append]
    gi_wp2
    have o1 := (ObjAt.made w #[.slice none 0 0] 22).alloc (.cells #[.int .i64 0] 26)
    have o2 := ObjAt.made (w.alloc (.cells #[.slice none 0 0] 22)) #[.int .i64 0] 26
    rw [World.size_alloc] at o2
    exact parse_fin0 _ w.heap.size _ _ rfl rfl _ o1 o2 ⟨((Below.refl _ _).alloc (Nat.le_refl _) _).alloc (by rw [World.size_alloc]; omega) _, _, rfl, World.ownsRow_nil _ _ _ _⟩
  · have hne : ((Str s).toList == [45]) = false := by
      have := str_beq s [45]
      rw [decide_eq_false h45, show (Str [45]).toList = [45] by first | rfl | decide +kernel] at this
      exact this
    have HSQ := Lib.hid (fun W => (callsIn_wide (n := 4)).2 (sseq_any s W))
    refine callsIn_of_wp_marks Tryz.func7 rfl trivial ?_ rfl
    simp only [Tryz.ntmps7, List.size_toArray, List.length_cons, List.length_nil, Nat.reduceAdd, Nat.reduceSub, Array.replicate_succ, Array.replicate_zero, List.push_toArray, List.append_toArray, List.nil_append, List.cons_append]
    gi_wp2_with (refine ⟨trivial, ?_⟩; gi_at_call 13; refine (HSQ.out _).mono ?_; rintro e w' ⟨rfl, rfl⟩)
    have HP0 := Lib.hid (first_world w s)
    generalize (World.alloc (World.alloc (World.alloc (World.alloc (World.alloc (World.alloc w _) _) _) _) _) _) = W0 at HP0 ⊢
    have hz := HP0.out.2.2
    refine wpIn_rangeFunc_box (b1 := w.heap.size + 1 + 1 + 1) (b2 := w.heap.size + 1 + 1 + 1 + 1) (b3 := w.heap.size + 1 + 1 + 1 + 2) rfl (by omega) (gf := 38) (lb := #[.pointer (some ⟨w.heap.size + 1 + 1 + 1 + 1, 0, none⟩), .pointer (some ⟨w.heap.size + 1 + 1 + 1, 0, none⟩), .pointer (some ⟨w.heap.size + 1 + 1 + 1 + 2, 0, none⟩)]) rfl trivial (enters_of Tryz.func38 (by kernel_rfl) rfl)
      (by omega) (by omega) (by omega) (split_box 4 (by omega) _ _ _ (by omega) (by omega) s hs W0 HP0.out.2.1) rfl (PI w (w.heap.size + 6)) (PX w)
      (fun ps A B row h hg hr => PI.grown (B0 := w.heap.size + 6) (b1 := w.heap.size + 1 + 1 + 1) (by omega) (by omega) h hg (fun r e => by rcases hr r e with h | ⟨h, h'⟩; exact .inl h; exact .inr ⟨by omega, h'⟩))
      (fun ps A B row h hg hr => PX.grown (B0 := w.heap.size + 6) (b1 := w.heap.size + 1 + 1 + 1) (by omega) (by omega) h hg (fun r e => by rcases hr r e with h | ⟨h, h'⟩; exact .inl h; exact .inr ⟨by omega, h'⟩))
      HP0.out.1
      (fun x => { tmps := #[.string (Str s), undef, .pointer (some ⟨w.heap.size, 0, none⟩), .pointer (some ⟨w.heap.size + 1, 0, none⟩), .pointer (some ⟨w.heap.size + 1 + 1, 0, none⟩), .string (Str x), undef, undef, .string (Str s), .bool false, .string (Str s), .func (.func 38) #[] #[.pointer (some ⟨w.heap.size + 1 + 1 + 1 + 1, 0, none⟩), .pointer (some ⟨w.heap.size + 1 + 1 + 1, 0, none⟩), .pointer (some ⟨w.heap.size + 1 + 1 + 1 + 2, 0, none⟩)], .string (Str x), undef, undef, undef, undef, undef, undef, undef, undef, undef, undef, undef, undef, undef, undef, undef], defers := [] }) ?assign ?body ?done ?stop
    case assign =>
      intro l x W K hK
      gi_wp2
      exact hK
    case body =>
      rintro l pre x W ⟨v, ls, k1, k2, k3, k4, k5, k6, k7⟩ hpx
      have hpl : pre.length ≤ 1000001 := by
        have h1 := hpx.length_le
        have h2 := spl_length s
        simp only [List.length_append, List.length_cons, List.length_nil] at h1
        omega
      have hxl : x.length ≤ 1000000 := by
        obtain ⟨t, ht⟩ := hpx
        have := spl_mem_len s x (by rw [← ht]; simp)
        omega
      have HPA : Hid (CallsIn (Fence.wide.inRound l) 2 Tryz.prog 14 #[.string (Str x)] W (ParseEnd W (parseV x))) := Lib.hid (CallsIn.inRound l ((callsIn_wide (n := 2)).2 (parse_any x hxl W (HE.out.below k1))))
      have HCS := Lib.hid (collP_snoc pre x)
      have HOK := Lib.hid (collP_ok k7)
      rw [k7] at HCS
      have hle17 : 17 ≤ (#[.bool false, .int .u8 0, .int .u8 0, .int .u8 0, .int .u8 0, .int .u8 0, .int .u8 0, .int .u8 0, .int .u8 0, .int .u8 0, .int .u8 0, .int .u8 0, .int .u8 0, .int .u8 0, .int .u8 0, .int .u8 0, .int .u8 0] : Array Value).size := by decide
      cases hpv : parseV x with
      | none =>
        rw [hpv] at HPA HCS
        have HST := Lib.hid (fun W2 (hb : Below W.heap.size W W2) => PX.step (x := x) (ps := pre) (B0 := w.heap.size + 6) (by omega) k1 k2 k3 k4 hb HCS.out)
        have HFC : Hid (∀ w1, Below W.heap.size W w1 → (aggW (w1.alloc (.cells #[.bool false, .int .u8 0, .int .u8 0, .int .u8 0, .int .u8 0, .int .u8 0, .int .u8 0, .int .u8 0, .int .u8 0, .int .u8 0, .int .u8 0, .int .u8 0, .int .u8 0, .int .u8 0, .int .u8 0, .int .u8 0, .int .u8 0] 36)) w1.heap.size (addrC false zero16)).cell? ⟨w.heap.size, 0, none⟩ = some (.slice none 0 0) ∧ (aggW (w1.alloc (.cells #[.bool false, .int .u8 0, .int .u8 0, .int .u8 0, .int .u8 0, .int .u8 0, .int .u8 0, .int .u8 0, .int .u8 0, .int .u8 0, .int .u8 0, .int .u8 0, .int .u8 0, .int .u8 0, .int .u8 0, .int .u8 0, .int .u8 0] 36)) w1.heap.size (addrC false zero16)).frozen? ⟨w.heap.size, 0, none⟩ = false ∧
            ((aggW (w1.alloc (.cells #[.bool false, .int .u8 0, .int .u8 0, .int .u8 0, .int .u8 0, .int .u8 0, .int .u8 0, .int .u8 0, .int .u8 0, .int .u8 0, .int .u8 0, .int .u8 0, .int .u8 0, .int .u8 0, .int .u8 0, .int .u8 0, .int .u8 0] 36)) w1.heap.size (addrC false zero16)).setCell ⟨w.heap.size, 0, none⟩ (.slice none 0 0)).cell? ⟨w.heap.size + 1, 0, none⟩ = some (.int .i64 0) ∧ ((aggW (w1.alloc (.cells #[.bool false, .int .u8 0, .int .u8 0, .int .u8 0, .int .u8 0, .int .u8 0, .int .u8 0, .int .u8 0, .int .u8 0, .int .u8 0, .int .u8 0, .int .u8 0, .int .u8 0, .int .u8 0, .int .u8 0, .int .u8 0, .int .u8 0] 36)) w1.heap.size (addrC false zero16)).setCell ⟨w.heap.size, 0, none⟩ (.slice none 0 0)).frozen? ⟨w.heap.size + 1, 0, none⟩ = false ∧
            Below W.heap.size W (aggW (w1.alloc (.cells #[.bool false, .int .u8 0, .int .u8 0, .int .u8 0, .int .u8 0, .int .u8 0, .int .u8 0, .int .u8 0, .int .u8 0, .int .u8 0, .int .u8 0, .int .u8 0, .int .u8 0, .int .u8 0, .int .u8 0, .int .u8 0, .int .u8 0] 36)) w1.heap.size (addrC false zero16))) := Lib.hid (by
          intro w1 hb
          obtain ⟨q1, q2⟩ := box_put w1 (false, zero16) rfl
          have hbb := hb.trans (q2.mono hb.size)
          have o1 := k3.below hbb k3.lt
          have o2 := (k4.below hbb k4.lt).other ⟨w.heap.size, 0, none⟩ (.slice none 0 0) (by simp)
          exact ⟨o1.cell 0, o1.free 0, o2.cell 0, o2.free 0, hbb⟩)
        have hfok : fok (addrC false zero16).toArray 17 = true := fok_addr false zero16 rfl
        clear hpv HCS k1 k2 k3 k4 k5 k6 k7
        gi_wp2_with (refine ⟨trivial, ?_⟩; gi_at_call 14; refine HPA.out.mono ?_; rintro e w1 ⟨rfl, hb⟩; have hfm := free_made w1 #[.bool false, .int .u8 0, .int .u8 0, .int .u8 0, .int .u8 0, .int .u8 0, .int .u8 0, .int .u8 0, .int .u8 0, .int .u8 0, .int .u8 0, .int .u8 0, .int .u8 0, .int .u8 0, .int .u8 0, .int .u8 0, .int .u8 0] 36 17 hle17; obtain ⟨f1, f2, f3, f4, hb2⟩ := HFC.out w1 hb; have Hb2 := Lib.hid hb2; clear hb hb2)
        exact HST.out _ Hb2.out
      | some a =>
        obtain ⟨v6, bs⟩ := a
        rw [hpv] at HPA HCS
        have hok : adOk (v6, bs) := parseV_ok hpv
        obtain ⟨p, cap, rfl, -, -⟩ := (k6.ads HOK.out.1).1.len
        have HFC := Lib.hid (PI.mid hok k1 k2 k5 k6)
        have HST := Lib.hid (fun (W3 w1 : World) (v' : Value) (hb : Below W.heap.size W W3) (hg : W3.grownBy w1 (Value.slice p ls.length cap).ownBlock) (ho : OwnL w1 (w.heap.size + 6) v' (ls ++ [(v6, bs)])) => PI.step (w := w) (B0 := w.heap.size + 6) (b1 := w.heap.size + 1 + 1 + 1) (b2 := w.heap.size + 1 + 1 + 1 + 1) (b3 := w.heap.size + 1 + 1 + 1 + 2) (x := x) (by omega) (by omega) (by omega) k1 k2 k3 k4 k5 k6 hb hg ho HCS.out)
        have HFD : Hid (∀ W3 w1 : World, Below W.heap.size W W3 → W3.grownBy w1 (Value.slice p ls.length cap).ownBlock → w1.cell? ⟨w.heap.size + 1 + 1, 0, none⟩ = some (.slice p ls.length cap) ∧ w1.frozen? ⟨w.heap.size + 1 + 1, 0, none⟩ = false) := Lib.hid (by
          intro W3 w1 hb hg
          have o := obj_grown (k5.below hb k5.lt) hg (fun e => by have := (own_geS k6 _ e).1; omega)
          exact ⟨o.cell 0, o.free 0⟩)
        have HSC : Hid (adsC (ls ++ [(v6, bs)]) = adsC ls ++ adC (v6, bs)) := Lib.hid (by simp [adsC])
        have HLN : Hid (ls.length ≤ 1000001) := Lib.hid (by rw [HOK.out.2]; exact hpl)
        have HL := Lib.hid (adC_length hok)
        have hlit := adsLit_run _ hok
        have H1 : Hid (∀ u ∈ adC (v6, bs), u.oneCell' = true) := Lib.hid (addrC_one _ _)
        have hfok : fok (adC (v6, bs)).toArray 17 = true := fok_addr v6 bs hok
        obtain ⟨i0, hi0, hz0, hz1, hz2⟩ := info_parts info_ad
        change Hid (CallsIn (Fence.wide.inRound l) 2 Tryz.prog 14 #[.string (Str x)] W fun e w' => e = .returned (.tuple #[.agg (adC (v6, bs)).toArray, .int .i64 0]) ∧ Below W.heap.size W w') at HPA
        generalize adC (v6, bs) = A at *
        clear hpv HCS k1 k2 k3 k4 k5 k6 k7 hok HOK
        gi_wp2_with (first
          | (refine ⟨trivial, ?_⟩; gi_at_call 14; refine HPA.out.mono ?_; rintro e w1 ⟨rfl, hb⟩; have hfm := free_made w1 #[.bool false, .int .u8 0, .int .u8 0, .int .u8 0, .int .u8 0, .int .u8 0, .int .u8 0, .int .u8 0, .int .u8 0, .int .u8 0, .int .u8 0, .int .u8 0, .int .u8 0, .int .u8 0, .int .u8 0, .int .u8 0, .int .u8 0] 36 17 hle17; obtain ⟨f1, f2, f3, f4, hb2⟩ := HFC.out w1 hb; have Hb2 := Lib.hid hb2; have hl17 := HL.out; have h1c := H1.out; clear hb hb2)
          | (gi_at_builtin; refine wpListIn_append_own _ rfl _ _ 22 rfl (w.heap.size + 6) 36 i0 (.agg #[.bool false, .int .u8 0, .int .u8 0, .int .u8 0, .int .u8 0, .int .u8 0, .int .u8 0, .int .u8 0, .int .u8 0, .int .u8 0, .int .u8 0, .int .u8 0, .int .u8 0, .int .u8 0, .int .u8 0, .int .u8 0, .int .u8 0]) 17 17 Tryz.underlying22 hi0 hz0 hz1 hz2 rfl (by decide) _ _ _ rfl (f3.alloc _) ⟨(aggW (w1.alloc (.cells #[.bool false, .int .u8 0, .int .u8 0, .int .u8 0, .int .u8 0, .int .u8 0, .int .u8 0, .int .u8 0, .int .u8 0, .int .u8 0, .int .u8 0, .int .u8 0, .int .u8 0, .int .u8 0, .int .u8 0, .int .u8 0, .int .u8 0] 36)) w1.heap.size A).heap.size, 0, none⟩ 1 1 A rfl hl17 (World.news_of_block (heap_alloc_new _ _)) h1c (by have := HLN.out; unfold maxLen; omega) (by have := HLN.out; omega) (by rw [World.size_alloc]; omega) ?_; intro v' w3 hown' hgrow hnil; obtain ⟨g', c', ev⟩ := ownsRow_succ hown'; subst ev; obtain ⟨g1, g2⟩ := HFD.out _ _ (Hb2.out.alloc (Hb2.out.size) _) hgrow; have Hown := Lib.hid hown'; have Hgrow := Lib.hid hgrow; clear hown' hgrow hnil f1 f2 f3 f4))
        exact HST.out _ _ _ (Hb2.out.alloc (Hb2.out.size) _) Hgrow.out (by unfold OwnL; rw [HSC.out, List.length_append]; exact Hown.out)
    case done =>
      intro D W hD hi hdf
      obtain ⟨v, ls, k1, k2, k3, k4, k5, k6, k7⟩ := hi
      have hco := collP_ok k7
      obtain ⟨p, cap, rfl, -, -⟩ := (k6.ads hco.1).1.len
      rename_i K hK
      refine hK _ _ ?_
      have HG : Hid (∀ R, R = isSet ls → CallsIn Fence.wide 4 Tryz.prog 15 #[.slice p ls.length cap] W fun x w' => x = .returned (.bool R) ∧ Below W.heap.size W w') := Lib.hid (fun R hR => (callsIn_wide (n := 4)).2 (sgood_any _ ls R (by rw [hR]; exact isSet_iff ls) W (k6.ads hco.1).1))
      have hpl : parseL s = if isSet ls = true then some ls else none := by unfold parseL; rw [if_neg h45, k7]
      cases hset : isSet ls with
      | false =>
        rw [hset] at HG hpl
        have HC : Hid (∀ w1, Below W.heap.size W w1 → w1.cell? ⟨w.heap.size, 0, none⟩ = some (.slice none 0 0) ∧ w1.frozen? ⟨w.heap.size, 0, none⟩ = false ∧ (w1.setCell ⟨w.heap.size, 0, none⟩ (.slice none 0 0)).cell? ⟨w.heap.size + 1, 0, none⟩ = some (.int .i64 0) ∧ (w1.setCell ⟨w.heap.size, 0, none⟩ (.slice none 0 0)).frozen? ⟨w.heap.size + 1, 0, none⟩ = false) := Lib.hid (by
          intro w1 hb
          have o1 := k3.below hb k3.lt
          have o2 := (k4.below hb k4.lt).other ⟨w.heap.size, 0, none⟩ (.slice none 0 0) (by simp)
          exact ⟨o1.cell 0, o1.free 0, o2.cell 0, o2.free 0⟩)
        have HF : Hid (∀ w1, Below W.heap.size W w1 → ObjAt ((w1.setCell ⟨w.heap.size, 0, none⟩ (.slice none 0 0)).setCell ⟨w.heap.size + 1, 0, none⟩ (.int .i64 2)) w.heap.size #[.slice none 0 0] 22 ∧ ObjAt ((w1.setCell ⟨w.heap.size, 0, none⟩ (.slice none 0 0)).setCell ⟨w.heap.size + 1, 0, none⟩ (.int .i64 2)) (w.heap.size + 1) #[.int .i64 2] 26 ∧
            ((w1.setCell ⟨w.heap.size, 0, none⟩ (.slice none 0 0)).setCell ⟨w.heap.size + 1, 0, none⟩ (.int .i64 2)).heap[D]? = some (.deferred (some [])) ∧ Below w.heap.size w ((w1.setCell ⟨w.heap.size, 0, none⟩ (.slice none 0 0)).setCell ⟨w.heap.size + 1, 0, none⟩ (.int .i64 2))) := Lib.hid (by
          intro w1 hb
          have o1 := obj_setCell (k3.below hb k3.lt) (.slice none 0 0)
          have o2 := (k4.below hb k4.lt).other ⟨w.heap.size, 0, none⟩ (.slice none 0 0) (by simp)
          refine ⟨o1.other ⟨w.heap.size + 1, 0, none⟩ _ (by simp), obj_setCell o2 _, ?_, ((k1.trans (hb.mono k1.size)).setCell (p := ⟨w.heap.size, 0, none⟩) (Nat.le_refl _) _).setCell (p := ⟨w.heap.size + 1, 0, none⟩) (by simp) _⟩
          exact (Below.heap_setCell _ _ _ D (by simp; omega)).trans ((Below.heap_setCell _ _ _ D (by simp; omega)).trans ((hb.block D (Array.getElem?_eq_some_iff.1 hdf).1).trans hdf)))
        have HHD := Lib.hid hD
        have HHZ := Lib.hid hz
        have HHP := Lib.hid hpl
        have f0 := k5.cell 0
        clear hco hset hpl k1 k3 k4 k5 k6 k7 k2 hdf
        gi_wp2_with (refine ⟨trivial, ?_⟩; gi_at_call 15; refine (HG.out _ rfl).mono ?_; rintro e w1 ⟨rfl, hb⟩; obtain ⟨f1, f2, f3, f4⟩ := HC.out w1 hb; have Hb := Lib.hid hb; clear hb)
        rw [show parseL s = none by rw [HHP.out]; rfl]
        obtain ⟨x1, x2, x3, x4⟩ := HF.out _ Hb.out
        exact parse_fin _ w.heap.size D _ _ rfl rfl _ x1 x2 (by have := HHD.out; have := HHZ.out; omega) x3 ⟨x4.grown (grownBy_putObj' _ D _) x4.size (fun k e => by cases e; have := HHD.out; have := HHZ.out; omega), rfl⟩
      | true =>
        rw [hset] at HG hpl
        have HC : Hid (∀ w1, Below W.heap.size W w1 → w1.cell? ⟨w.heap.size + 1 + 1, 0, none⟩ = some (.slice p ls.length cap) ∧ w1.cell? ⟨w.heap.size, 0, none⟩ = some (.slice none 0 0) ∧ w1.frozen? ⟨w.heap.size, 0, none⟩ = false ∧ (w1.setCell ⟨w.heap.size, 0, none⟩ (.slice p ls.length cap)).cell? ⟨w.heap.size + 1, 0, none⟩ = some (.int .i64 0) ∧ (w1.setCell ⟨w.heap.size, 0, none⟩ (.slice p ls.length cap)).frozen? ⟨w.heap.size + 1, 0, none⟩ = false) := Lib.hid (by
          intro w1 hb
          have o1 := k3.below hb k3.lt
          have o2 := (k4.below hb k4.lt).other ⟨w.heap.size, 0, none⟩ (.slice p ls.length cap) (by simp)
          exact ⟨(k5.below hb k5.lt).cell 0, o1.cell 0, o1.free 0, o2.cell 0, o2.free 0⟩)
        have HF : Hid (∀ w1, Below W.heap.size W w1 → ObjAt ((w1.setCell ⟨w.heap.size, 0, none⟩ (.slice p ls.length cap)).setCell ⟨w.heap.size + 1, 0, none⟩ (.int .i64 0)) w.heap.size #[.slice p ls.length cap] 22 ∧ ObjAt ((w1.setCell ⟨w.heap.size, 0, none⟩ (.slice p ls.length cap)).setCell ⟨w.heap.size + 1, 0, none⟩ (.int .i64 0)) (w.heap.size + 1) #[.int .i64 0] 26 ∧
            ((w1.setCell ⟨w.heap.size, 0, none⟩ (.slice p ls.length cap)).setCell ⟨w.heap.size + 1, 0, none⟩ (.int .i64 0)).heap[D]? = some (.deferred (some [])) ∧ Below w.heap.size w ((w1.setCell ⟨w.heap.size, 0, none⟩ (.slice p ls.length cap)).setCell ⟨w.heap.size + 1, 0, none⟩ (.int .i64 0)) ∧
            OwnL (((w1.setCell ⟨w.heap.size, 0, none⟩ (.slice p ls.length cap)).setCell ⟨w.heap.size + 1, 0, none⟩ (.int .i64 0)).putObj D (.deferred none)) w.heap.size (.slice p ls.length cap) ls) := Lib.hid (by
          intro w1 hb
          have o1 := obj_setCell (k3.below hb k3.lt) (.slice p ls.length cap)
          have o2 := (k4.below hb k4.lt).other ⟨w.heap.size, 0, none⟩ (.slice p ls.length cap) (by simp)
          have hdd : ((w1.setCell ⟨w.heap.size, 0, none⟩ (.slice p ls.length cap)).setCell ⟨w.heap.size + 1, 0, none⟩ (.int .i64 0)).heap[D]? = some (.deferred (some [])) := (Below.heap_setCell _ _ _ D (by simp; omega)).trans ((Below.heap_setCell _ _ _ D (by simp; omega)).trans ((hb.block D (Array.getElem?_eq_some_iff.1 hdf).1).trans hdf))
          refine ⟨o1.other ⟨w.heap.size + 1, 0, none⟩ _ (by simp), obj_setCell o2 _, hdd, ((k1.trans (hb.mono k1.size)).setCell (p := ⟨w.heap.size, 0, none⟩) (Nat.le_refl _) _).setCell (p := ⟨w.heap.size + 1, 0, none⟩) (by simp) _, ?_⟩
          have ow := own_kept3 (own_kept3 (OwnL.below k6 hb) (grown_set w1 w.heap.size (.slice p ls.length cap)) (fun g e q => by have := (own_geS k6 g e).1; cases q; omega)) (grown_set _ (w.heap.size + 1) (.int .i64 0)) (fun g e q => by have := (own_geS k6 g e).1; cases q; omega)
          exact own_mono (ownsRow_putObj ow _ hdd rfl) (by omega))
        have HHD := Lib.hid hD
        have HHZ := Lib.hid hz
        have HHP := Lib.hid hpl
        have f0 := k5.cell 0
        clear hco hset hpl k1 k3 k4 k5 k6 k7 k2 hdf
        gi_wp2_with (refine ⟨trivial, ?_⟩; gi_at_call 15; refine (HG.out _ rfl).mono ?_; rintro e w1 ⟨rfl, hb⟩; obtain ⟨f1, f2, f3, f4, f5⟩ := HC.out w1 hb; have Hb := Lib.hid hb; clear hb)
        rw [show parseL s = some ls by rw [HHP.out]; rfl]
        obtain ⟨x1, x2, x3, x4, x5⟩ := HF.out _ Hb.out
        exact parse_fin _ w.heap.size D _ _ rfl rfl _ x1 x2 (by have := HHD.out; have := HHZ.out; omega) x3 ⟨x4.grown (grownBy_putObj' _ D _) x4.size (fun k e => by cases e; have := HHD.out; have := HHZ.out; omega), _, rfl, x5⟩
    case stop =>
      intro D pre W hD hpre hx hdf
      obtain ⟨k1, k3, k4, k7⟩ := hx
      have hpl : parseL s = none := by unfold parseL; rw [if_neg h45, collP_none k7 hpre]
      rename_i K hK
      gi_wp2
      rw [hpl]
      exact parse_fin _ w.heap.size D _ _ rfl rfl W k3 k4 (by omega) hdf ⟨k1.grown (grownBy_putObj' W D _) k1.size (fun k e => by cases e; omega), rfl⟩
end Go.Proofs.YtalnfjnfcloonaaGreatDoor
