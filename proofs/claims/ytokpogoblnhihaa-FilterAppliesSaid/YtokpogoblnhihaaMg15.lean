/-
  Texts joined: PureFt, Mem, SeQ.
-/
import Derived.Test.YtokpogoblnhihaaMg14
import Derived.Test.YtokpogoblnhihaaMg01
import Derived.Test.YtokpogoblnhihaaMg00
import Derived.BigQuiet
import Derived.Below
/-
  A router's state of a group, and what records do to it, as plain data.
-/
namespace Go.Proofs.Ytokpogoblnhihaa
set_option linter.unusedVariables false
set_option linter.unusedSimpArgs false

structure ST where
  ex : Bool
  on : List AD
  off : List AD
  deriving DecidableEq
def SetA (l : List AD) : Prop := Sorted ltA l ∧ ∀ x ∈ l, goodB x = true
theorem SetA.nil : SetA [] := ⟨List.Pairwise.nil, fun x hx => by cases hx⟩
theorem SetA.of (l : List AD) : SetA (ofA l) := ⟨ofS_sorted (ltA_ord goodB) l, ofA_good l⟩
theorem SetA.id {l : List AD} (h : SetA l) : ofA l = l := ofS_id (ltA_ord goodB) h.1 h.2
theorem SetA.iff {l : List AD} : ofA l = l ↔ SetA l := ⟨fun h => by rw [← h]; exact SetA.of l, SetA.id⟩
theorem SetA.filter {l : List AD} (h : SetA l) (p : AD → Bool) : SetA (l.filter p) := ⟨Sorted.filter h.1 p, fun x hx => h.2 x (List.mem_filter.1 hx).1⟩
theorem SetA.pick {l : List AD} (h : SetA l) (m : List AD) (i : Bool) : SetA (pickA l m i) := h.filter _
theorem SetA.or (l m : List AD) : SetA (orA l m) := SetA.of _
theorem SetA.ext {l m : List AD} (h : SetA l) (k : SetA m) (e : ∀ x, x ∈ l ↔ x ∈ m) : l = m := Sorted.ext (ltA_ord goodB) h.1 k.1 e
theorem mem_pickA {l m : List AD} {i : Bool} {x : AD} : x ∈ pickA l m i ↔ x ∈ l ∧ (decide (x ∈ m)) = i := by unfold pickA; rw [List.mem_filter]; simp
theorem mem_orA {l m : List AD} {x : AD} (hl : SetA l) (hm : SetA m) : x ∈ orA l m ↔ x ∈ l ∨ x ∈ m := by
  unfold orA
  rw [mem_ofA, List.mem_append]
  exact ⟨fun h => h.1, fun h => ⟨h, h.elim (hl.2 x) (hm.2 x)⟩⟩
structure ST.Good (s : ST) : Prop where
  on : SetA s.on
  off : SetA s.off
  apart : ∀ x ∈ s.on, x ∉ s.off
  inc : s.ex = false → s.off = []
def gdS (s : ST) : Bool := decide (ofA s.on = s.on) && (decide (ofA s.off = s.off) && ((s.ex || decide (s.off = [])) && decide (pickA s.on s.off true = [])))
theorem gdS_iff {s : ST} : gdS s = true ↔ s.Good := by
  unfold gdS
  simp only [Bool.and_eq_true, decide_eq_true_eq, Bool.or_eq_true, SetA.iff]
  constructor
  · rintro ⟨h1, h2, h3, h4⟩
    refine ⟨h1, h2, fun x hx hy => ?_, fun h => ?_⟩
    · have : x ∈ pickA s.on s.off true := mem_pickA.2 ⟨hx, by simpa using hy⟩
      rw [h4] at this; cases this
    · rcases h3 with h3 | h3
      · rw [h] at h3; cases h3
      · exact h3
  · rintro ⟨h1, h2, h3, h4⟩
    refine ⟨h1, h2, ?_, ?_⟩
    · cases h : s.ex
      · exact Or.inr (h4 h)
      · exact Or.inl rfl
    · rw [List.eq_nil_iff_forall_not_mem]
      intro x hx
      obtain ⟨a, b⟩ := mem_pickA.1 hx
      exact h3 x a (by simpa using b)
def ownS (s : ST) : ST := ⟨s.ex, ofA s.on, if s.ex then pickA (ofA s.off) (ofA s.on) false else []⟩
theorem ownS_good (s : ST) : (ownS s).Good := by
  unfold ownS
  refine ⟨SetA.of _, ?_, ?_, ?_⟩
  · show SetA (if s.ex then pickA (ofA s.off) (ofA s.on) false else [])
    split
    · exact (SetA.of _).pick _ _
    · exact SetA.nil
  · intro x hx
    show x ∉ (if s.ex then pickA (ofA s.off) (ofA s.on) false else [])
    split
    · intro h
      have := (mem_pickA.1 h).2
      simp only [decide_eq_false_iff_not] at this
      exact this hx
    · simp
  · intro h
    show (if s.ex then pickA (ofA s.off) (ofA s.on) false else []) = []
    rw [show s.ex = false from h]; rfl
theorem ownS_id {s : ST} (h : s.Good) : ownS s = s := by
  obtain ⟨e, a, b⟩ := s
  obtain ⟨h1, h2, h3, h4⟩ := h
  simp only at h1 h2 h3 h4
  unfold ownS
  simp only [h1.id, h2.id, ST.mk.injEq, true_and]
  cases e
  · simp [h4 rfl]
  · simp only [if_true]
    refine (h2.pick _ _).ext h2 fun x => ?_
    rw [mem_pickA]
    constructor
    · exact fun h => h.1
    · exact fun h => ⟨h, by simp only [decide_eq_false_iff_not]; exact fun k => h3 x k h⟩
/-- What a record comes to. -/
structure SP where
  st : ST
  full : List AD
  rest : List AD
  grp : Bool
  ask : List AD
  all : Bool
  deriving DecidableEq
def inK (k : Int) : Bool := decide (k = 1 ∨ k = 3 ∨ k = 5)
def exK (k : Int) : Bool := decide (k = 2 ∨ k = 4)
def fOn (k : Int) (e on off said : Bool) : Bool := if inK k && said then true else if exK k && !said then false else if said && (!on && (!off && (e && (exK k || decide (k = 6))))) then true else on
def fOff (k : Int) (e on off said : Bool) : Bool := if inK k && said then false else if exK k && !said then false else if said && (!on && (!off && (!e && exK k))) then true else off
def fFull (k : Int) (e on off said : Bool) : Bool := (inK k && said) || (said && (!on && (!off && (e && decide (k = 2)))))
def fRest (k : Int) (e on off said : Bool) : Bool := said && (!on && (!off && (e && decide (k = 4 ∨ k = 6))))
def fAsk (k : Int) (e on off said : Bool) : Bool := if k = 6 ∨ k = 4 then said && (on || (e && !off)) else decide (k = 3) && (on && !said)
def bySrc (f : Int → Bool → Bool → Bool → Bool → Bool) (s : ST) (k : Int) (b : List AD) (a : AD) : Bool := f k s.ex (decide (a ∈ s.on)) (decide (a ∈ s.off)) (decide (a ∈ b))
def allS (s : ST) (b : List AD) : List AD := orA (orA s.on s.off) (ofA b)
def stepR (s : ST) (k : Int) (b : List AD) : SP :=
  ⟨⟨exK k || s.ex, (allS s b).filter (bySrc fOn s k b), (allS s b).filter (bySrc fOff s k b)⟩, (allS s b).filter (bySrc fFull s k b), (allS s b).filter (bySrc fRest s k b), exK k, (allS s b).filter (bySrc fAsk s k b), s.ex && decide (k = 3)⟩
/-- The table. -/
def stepT (s : ST) (k : Int) (b : List AD) : SP :=
  if s.ex = false then
    if k = 1 ∨ k = 5 then ⟨⟨false, orA s.on b, []⟩, b, [], false, [], false⟩
    else if k = 3 then ⟨⟨false, orA s.on b, []⟩, b, [], false, pickA s.on b false, false⟩
    else if k = 6 then ⟨⟨false, s.on, []⟩, [], [], false, pickA s.on b true, false⟩
    else if k = 2 then ⟨⟨true, pickA s.on b true, pickA b s.on false⟩, [], [], true, [], false⟩
    else if k = 4 then ⟨⟨true, pickA s.on b true, pickA b s.on false⟩, [], [], true, pickA s.on b true, false⟩
    else ⟨s, [], [], false, [], false⟩
  else
    if k = 1 ∨ k = 5 then ⟨⟨true, orA s.on b, pickA s.off b false⟩, b, [], false, [], false⟩
    else if k = 3 then ⟨⟨true, orA s.on b, pickA s.off b false⟩, b, [], false, pickA s.on b false, true⟩
    else if k = 2 then ⟨⟨true, pickA b s.off false, pickA s.off b true⟩, pickA (pickA b s.on false) s.off false, [], true, [], false⟩
    else if k = 4 then ⟨⟨true, pickA b s.off false, pickA s.off b true⟩, [], pickA (pickA b s.on false) s.off false, true, pickA b s.off false, false⟩
    else if k = 6 then ⟨⟨true, orA s.on (pickA b s.off false), s.off⟩, [], pickA (pickA b s.on false) s.off false, false, pickA b s.off false, false⟩
    else ⟨s, [], [], false, [], false⟩
theorem mem_allS {s : ST} {b : List AD} (h : s.Good) (hb : SetA b) {x : AD} : x ∈ allS s b ↔ x ∈ s.on ∨ x ∈ s.off ∨ x ∈ b := by
  unfold allS
  rw [hb.id, mem_orA (SetA.or _ _) hb, mem_orA h.on h.off]
  exact or_assoc
theorem filt_eq {s : ST} {b l : List AD} (h : s.Good) (hb : SetA b) (hl : SetA l) (f : Int → Bool → Bool → Bool → Bool → Bool) (k : Int) (e : ∀ x, x ∈ l ↔ (x ∈ s.on ∨ x ∈ s.off ∨ x ∈ b) ∧ f k s.ex (decide (x ∈ s.on)) (decide (x ∈ s.off)) (decide (x ∈ b)) = true) : l = (allS s b).filter (bySrc f s k b) := by
  refine hl.ext ((SetA.or _ _).filter _) fun x => ?_
  rw [List.mem_filter, mem_allS h hb]
  exact e x
theorem SP_ext {e e' g g' al al' : Bool} {a a' b b' c c' d d' f f' : List AD} (h0 : e = e') (h1 : a = a') (h2 : b = b') (h3 : c = c') (h4 : d = d') (h5 : g = g') (h6 : f = f') (h7 : al = al') : SP.mk ⟨e, a, b⟩ c d g f al = ⟨⟨e', a', b'⟩, c', d', g', f', al'⟩ := by
  subst h0 h1 h2 h3 h4 h5 h6 h7; rfl
set_option maxHeartbeats 8000000 in
theorem stepT_eq {s : ST} {b : List AD} (h : s.Good) (hb : SetA b) (k : Int) : stepT s k b = stepR s k b := by
  obtain ⟨e, a, y⟩ := s
  obtain ⟨h1, h2, h3, h4⟩ := h
  simp only at h1 h2 h3 h4
  have F := fun l (hl : SetA l) f (ee : ∀ x, x ∈ l ↔ (x ∈ a ∨ x ∈ y ∨ x ∈ b) ∧ f k e (decide (x ∈ a)) (decide (x ∈ y)) (decide (x ∈ b)) = true) => filt_eq (s := ⟨e, a, y⟩) ⟨h1, h2, h3, h4⟩ hb hl f k ee
  have hn := SetA.nil
  have p1 := h1.pick b true
  have p2 := h1.pick b false
  have p3 := h2.pick b true
  have p4 := h2.pick b false
  have p5 := hb.pick a false
  have p6 := hb.pick y false
  have p7 := (hb.pick a false).pick y false
  have o1 : SetA (orA a b) := SetA.or _ _
  have o2 : SetA (orA a (pickA b y false)) := SetA.or _ _
  have m1 : ∀ x, x ∈ orA a b ↔ x ∈ a ∨ x ∈ b := fun x => mem_orA h1 hb
  have m2 : ∀ x, x ∈ orA a (pickA b y false) ↔ x ∈ a ∨ (x ∈ b ∧ x ∉ y) := fun x => by rw [mem_orA h1 p6, mem_pickA]; simp
  unfold stepT stepR
  have h7 : (k = 1 ∨ k = 5) ∨ k = 3 ∨ k = 6 ∨ k = 2 ∨ k = 4 ∨ (k ≠ 1 ∧ k ≠ 5 ∧ k ≠ 3 ∧ k ≠ 6 ∧ k ≠ 2 ∧ k ≠ 4) := by omega
  cases e with
  | false =>
    obtain rfl := h4 rfl
    rcases h7 with (rfl | rfl) | rfl | rfl | rfl | rfl | ⟨n1, n5, n3, n6, n2, n4⟩
    all_goals
      first
      | simp only [n1, n5, n3, n6, n2, n4, if_true, if_false, or_self]
      | simp only [if_true, if_false, Int.reduceEq, or_self, or_true, true_or, or_false, false_or, Bool.false_eq_true]
    all_goals refine SP_ext ?_ ?_ ?_ ?_ ?_ ?_ ?_ ?_
    all_goals
      first
      | rfl
      | (simp [exK, inK, *]; done)
      | (refine F _ (by assumption) _ fun x => ?_
         simp only [m1, m2, mem_pickA, fOn, fOff, fFull, fRest, fAsk, inK, exK]
         by_cases xa : x ∈ a <;> by_cases xb : x ∈ b <;> simp [xa, xb, *])
  | true =>
    rcases h7 with (rfl | rfl) | rfl | rfl | rfl | rfl | ⟨n1, n5, n3, n6, n2, n4⟩
    all_goals
      first
      | simp only [n1, n5, n3, n6, n2, n4, if_true, if_false, or_self, Bool.true_eq_false]
      | simp only [if_true, if_false, Int.reduceEq, or_self, or_true, true_or, or_false, false_or, Bool.false_eq_true, Bool.true_eq_false]
    all_goals refine SP_ext ?_ ?_ ?_ ?_ ?_ ?_ ?_ ?_
    all_goals
      first
      | rfl
      | (simp [exK, inK, *]; done)
      | (refine F _ (by assumption) _ fun x => ?_
         have hx := h3 x
         simp only [m1, m2, mem_pickA, fOn, fOff, fFull, fRest, fAsk, inK, exK]
         by_cases xa : x ∈ a <;> by_cases xy : x ∈ y <;> by_cases xb : x ∈ b <;> first | exact absurd xy (hx xa) | simp [xa, xb, xy, *])
theorem stepR_good {s : ST} {b : List AD} (h : s.Good) (hb : SetA b) (k : Int) : (stepR s k b).st.Good := by
  have hS := SetA.or (orA s.on s.off) (ofA b)
  refine ⟨hS.filter _, hS.filter _, fun x hx hy => ?_, fun he => ?_⟩
  · have h1 := (List.mem_filter.1 hx).2
    have h2 := (List.mem_filter.1 hy).2
    have h3 := h.apart x
    revert h1 h2
    unfold bySrc
    generalize s.ex = e
    by_cases xa : x ∈ s.on <;> by_cases xy : x ∈ s.off <;> by_cases xb : x ∈ b
    all_goals first | exact absurd xy (h3 xa) | skip
    all_goals simp only [xa, xy, xb, decide_true, decide_false, fOn, fOff]
    all_goals cases hi : inK k <;> cases he : exK k <;> cases e <;> simp_all
  · have he' : (exK k || s.ex) = false := he
    rw [Bool.or_eq_false_iff] at he'
    have h4 := h.inc he'.2
    show (allS s b).filter (bySrc fOff s k b) = []
    rw [List.filter_eq_nil_iff]
    intro x _
    unfold bySrc
    rw [h4, he'.2]
    simp only [fOff, he'.1]
    cases inK k <;> simp
end Go.Proofs.Ytokpogoblnhihaa

/-
  Objects in memory: made, kept, boxed, loaded whole.
-/
namespace Go.Proofs.Ytokpogoblnhihaa
open Go.RowKit
set_option linter.unusedVariables false

theorem obj_re {w : World} {b o n : Nat} {L A M C : List Value} {t : TypeId} (h : ObjAt w b L.toArray t) (e : L = A ++ (M ++ C)) (ho : A.length = o) (hn : M.length = n) : row? w b o n = some M := by subst e; exact obj_row h ho hn
theorem obj_keep {w w' : World} {b : Nat} {cs : Array Value} {t : TypeId} (h : ObjAt w b cs t) (hb : Below w.heap.size w w') : ObjAt w' b cs t := h.below hb h.lt
theorem bbox (w : World) (o : Obj) : Below w.heap.size w (w.alloc o) := (Below.refl _ _).alloc (Nat.le_refl _) o
theorem bbox2 (w : World) (o p : Obj) : Below w.heap.size w ((w.alloc o).alloc p) := (bbox w o).alloc (by simp) p
/-- A block boxed, and the result's cells behind it. -/
structure Bx (w W : World) (c : Array Value) (T : TypeId) (d : Array Value) (U : TypeId) : Prop where
  one : ObjAt W w.heap.size c T
  two : ObjAt W (w.heap.size + 1) d U
  blw : Below w.heap.size w W
theorem Bx.made (w : World) (c : Array Value) (T : TypeId) (d : Array Value) (U : TypeId) : Bx w ((w.alloc (.cells c T)).alloc (.cells d U)) c T d U := by
  refine ⟨(ObjAt.made w _ _).alloc _, ?_, bbox2 _ _ _⟩
  have := ObjAt.made (w.alloc (.cells c T)) d U
  rw [show (w.alloc (.cells c T)).heap.size = w.heap.size + 1 by simp] at this
  exact this
theorem Bx.below {w W W' : World} {c d : Array Value} {T U : TypeId} (h : Bx w W c T d U) (hb : Below W.heap.size W W') : Bx w W' c T d U := ⟨obj_keep h.one hb, obj_keep h.two hb, bstep h.blw hb⟩
theorem Bx.free {w W : World} {c d : Array Value} {T U : TypeId} (h : Bx w W c T d U) (n : Nat) (hn : n ≤ d.size) : free? W (w.heap.size + 1) 0 n = true := obj_free h.two (by omega)
theorem Bx.done {w W : World} {c d : Array Value} {T U : TypeId} (h : Bx w W c T d U) (L : List Value) (hL : L.length = d.size) : row? (aggW W (w.heap.size + 1) L) (w.heap.size + 1) 0 d.size = some L ∧ Below w.heap.size w (aggW W (w.heap.size + 1) L) :=
  ⟨aggW_row (h.free _ (Nat.le_refl _)) hL, aggW_below h.blw (by omega) _⟩
theorem ret_boolF {a b : Bool} (h : a = b) : Ending.returned (.bool a) = .returned (.bool b) := by rw [h]

theorem obj_free_at {w : World} {b : Nat} {cs : Array Value} {t : TypeId} (h : ObjAt w b cs t) (o n : Nat) (hn : o + n ≤ cs.size) : free? w b o n = true :=
  free_of fun j hj => ⟨by rw [h.cell (o + j), Array.getElem?_eq_getElem (by omega)]; rfl, h.free (o + j)⟩
theorem fmade (W : World) (Z : Array Value) (U : TypeId) (n : Nat) (h : n = Z.size) : free? (W.alloc (.cells Z U)) W.heap.size 0 n = true := free_made W Z U n (Nat.le_of_eq h)
theorem keepNew {W : World} {b : Nat} {c Z : Array Value} {T U : TypeId} {L : List Value} (h : ObjAt W b c T) : ObjAt (aggW (W.alloc (.cells Z U)) W.heap.size L) b c T := aggW_other (h.alloc _) _ (Nat.ne_of_lt h.lt)
theorem newObj (W : World) (Z : Array Value) (U : TypeId) {L : List Value} (hl : L.length = Z.size) (h1 : ∀ v ∈ L, v.oneCell' = true) : ObjAt (aggW (W.alloc (.cells Z U)) W.heap.size L) W.heap.size L.toArray U :=
  aggW_obj (L := Z.toList) (by simpa using ObjAt.made W Z U) (by simpa using hl) h1
theorem newBlw (W : World) (o : Obj) (L : List Value) : Below W.heap.size W (aggW (W.alloc o) W.heap.size L) := aggW_below (bbox W o) (Nat.le_refl _) _
theorem resDone {w W : World} {n : Nat} {c : Array Value} {T : TypeId} (h : ObjAt W n c T) (hb : Below w.heap.size w W) (hn : w.heap.size ≤ n) (L : List Value) (hL : L.length = c.size) : row? (aggW W n L) n 0 c.size = some L ∧ Below w.heap.size w (aggW W n L) :=
  ⟨aggW_row (obj_free h (Nat.le_refl _)) hL, aggW_below hb hn _⟩
end Go.Proofs.Ytokpogoblnhihaa

/-
  A region that draws its order and whose calls leave a class of worlds: walked once, in the order of the text, guards too.
-/
namespace Go.Proofs.Ytokpogoblnhihaa
open Go.RowKit
set_option linter.unusedVariables false

/-- A world of a class. -/
structure InS (S : World → Prop) where
  W : World
  h : S W
theorem wp_region_inS {P : Program} {id : Nat} {Q : Exit → Act → World → Prop} {a : Act} {w : World} {l : List Oper} (S : World → Prop) (hm : P.follows .mixedOrders = true) (hB : Region.lexB .any l.toArray = true) (h0 : S w.drew)
    (h : wpQuiet P l.toArray (fun w' => ∃ p : InS S, w' = p.W) (fun a' => ∀ w', (∃ p : InS S, w' = p.W) → Q .normal a' w') l a) : (Code.region id l.toArray true).wp P Q a w :=
  wp_region_quiet (C := fun w' => ∃ p : InS S, w' = p.W) hm hB ⟨⟨w.drew, h0⟩, rfl⟩ (by simpa using h)
/-- A callee's contract, met in a world of the class. -/
theorem Calls.inS {P : Program} {f : FuncId} {args : Array Value} {S : World → Prop} {v : Value} (hk : ∀ W W', S W → Below W.heap.size W W' → S W') (p : InS S)
    (h : ∀ W, S W → Calls P f args W fun e w' => e = .returned v ∧ Below W.heap.size W w') : Calls P f args p.W fun e w'' => e = .returned v ∧ ∃ q : InS S, w'' = q.W :=
  (h p.W p.h).mono fun _ _ ⟨he, hb⟩ => ⟨he, ⟨⟨_, hk _ _ p.h hb⟩, rfl⟩⟩
end Go.Proofs.Ytokpogoblnhihaa

