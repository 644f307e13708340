/-
  The struct that the law MldAway takes, and what it boxes.
-/
import Derived.Test.YtgpccgcppbdlpaaGreatMg44
import Derived.Test.YtgpccgcppbdlpaaGreatMwF
namespace Go.Proofs.YtgpccgcppbdlpaaGreat
open Go.RowKit
set_option linter.unusedVariables false
set_option linter.unusedSimpArgs false

def awayS := pairS 26 talkS (pairS 17 addrS (pairS 17 addrS (pairS 17 addrS unitS)))
theorem opens_awayS : Opens Tryz.prog 44 awayS :=
  opens_struct Tryz.underlying44 (opens_cons rfl (by kernel_rfl) (of_decide_eq_true (by kernel_rfl)) opens_talkS
    (opens_cons rfl (by kernel_rfl) (of_decide_eq_true (by kernel_rfl)) opens_addrS
    (opens_cons rfl (by kernel_rfl) (of_decide_eq_true (by kernel_rfl)) opens_addrS
    (opens_cons rfl (by kernel_rfl) (of_decide_eq_true (by kernel_rfl)) opens_addrS (opens_nil (by kernel_rfl))))))
/-- The struct's cells. -/
def awC (t : TK) (us ur : Value) (f g o : AD) : List Value := tkC t us ur ++ (adC f ++ (adC g ++ adC o))
theorem awayS_cells {w : World} {cs : List Value} {x : _} (h : awayS w cs x) : ∃ (t : TK) (us ur : Value) (f g o : AD), cs = awC t us ur f g o ∧ t.ok ∧ Ads w us t.src ∧ Rcs w ur t.rcs ∧ adOk f ∧ adOk g ∧ adOk o := by
  obtain ⟨c1, d1, rfl, l1, h1, c2, d2, e2, l2, h2, c3, d3, e3, l3, h3, c4, d4, e4, l4, h4, h5⟩ := h
  obtain ⟨t, ht⟩ := talkS_cells h1
  have ok := ht.ok
  obtain ⟨_, us, ur, rfl, hs, hr⟩ := ht
  obtain ⟨k2, o2⟩ := addrS_cells h2
  obtain ⟨k3, o3⟩ := addrS_cells h3
  obtain ⟨k4, o4⟩ := addrS_cells h4
  unfold unitS at h5
  refine ⟨t, us, ur, (x.2.1.1, x.2.1.2.1), (x.2.2.1.1, x.2.2.1.2.1), (x.2.2.2.1.1, x.2.2.2.1.2.1), ?_, ok, hs, hr, o2, o3, o4⟩
  rw [e2, e3, e4, h5, k2, k3, k4]
  unfold awC adC
  simp
/-- What is read between other addresses is the same, or the sum is wrong. -/
theorem readM_other (P P' s : List UInt8) (T : TK) (h : readM P s = (T, 0)) : (readM P' s).2 = 4 ∨ readM P' s = (T, 0) := by
  unfold readM at h ⊢
  by_cases h8 : s.length < 8
  · rw [if_pos h8] at h; simp at h
  rw [if_neg h8] at h ⊢
  by_cases h1 : foldN (wsum (P ++ s)) = 65535
  · rw [if_neg (by rw [h1]; simp)] at h
    by_cases h2 : foldN (wsum (P' ++ s)) = 65535
    · right; rw [if_neg (by rw [h2]; simp)]; exact h
    · left; rw [if_pos h2]
  · rw [if_pos h1] at h; simp at h
def vx (a : AD) : AD := (true, a.2)
theorem vx_ok {a : AD} (h : adOk a) : adOk (vx a) := h
/-- The boxed struct, and the blocks that have been made so far: the talk's, the addresses'. -/
structure AS (w W : World) (L : List Value) (p3 p4 p5 p6 : Option Nat) : Prop where
  bx : ObjAt W w.heap.size L.toArray 44
  bl : Below w.heap.size w W
  h3 : ∀ m, p3 = some m → w.heap.size < m ∧ ObjAt W m #[.bool false, .int .i64 0, .int .i64 0, .int .i64 0, .bool false, .int .u8 0, .int .u8 0, .int .u8 0, .int .u8 0, .int .u8 0, .int .u8 0, .int .u8 0, .int .u8 0, .int .u8 0, .int .u8 0, .int .u8 0, .int .u8 0, .int .u8 0, .int .u8 0, .int .u8 0, .int .u8 0, .bool false, .int .i64 0, .int .i64 0, .slice none 0 0, .slice none 0 0] 28
  h4 : ∀ m, p4 = some m → w.heap.size < m ∧ ObjAt W m #[.bool false, .int .u8 0, .int .u8 0, .int .u8 0, .int .u8 0, .int .u8 0, .int .u8 0, .int .u8 0, .int .u8 0, .int .u8 0, .int .u8 0, .int .u8 0, .int .u8 0, .int .u8 0, .int .u8 0, .int .u8 0, .int .u8 0] 24
  h5 : ∀ m, p5 = some m → w.heap.size < m ∧ ObjAt W m #[.bool false, .int .u8 0, .int .u8 0, .int .u8 0, .int .u8 0, .int .u8 0, .int .u8 0, .int .u8 0, .int .u8 0, .int .u8 0, .int .u8 0, .int .u8 0, .int .u8 0, .int .u8 0, .int .u8 0, .int .u8 0, .int .u8 0] 24
  h6 : ∀ m, p6 = some m → w.heap.size < m ∧ ObjAt W m #[.bool false, .int .u8 0, .int .u8 0, .int .u8 0, .int .u8 0, .int .u8 0, .int .u8 0, .int .u8 0, .int .u8 0, .int .u8 0, .int .u8 0, .int .u8 0, .int .u8 0, .int .u8 0, .int .u8 0, .int .u8 0, .int .u8 0] 24
  n45 : ∀ a b, p4 = some a → p5 = some b → a ≠ b
  n46 : ∀ a b, p4 = some a → p6 = some b → a ≠ b
  n56 : ∀ a b, p5 = some a → p6 = some b → a ≠ b
section
variable {w W W' : World} {L : List Value} {p3 p4 p5 p6 : Option Nat}
theorem AS.below (h : AS w W L p3 p4 p5 p6) (hb : Below W.heap.size W W') : AS w W' L p3 p4 p5 p6 :=
  ⟨h.bx.below hb h.bx.lt, bstep h.bl hb, fun m e => ⟨(h.h3 m e).1, (h.h3 m e).2.below hb (h.h3 m e).2.lt⟩, fun m e => ⟨(h.h4 m e).1, (h.h4 m e).2.below hb (h.h4 m e).2.lt⟩, fun m e => ⟨(h.h5 m e).1, (h.h5 m e).2.below hb (h.h5 m e).2.lt⟩, fun m e => ⟨(h.h6 m e).1, (h.h6 m e).2.below hb (h.h6 m e).2.lt⟩, h.n45, h.n46, h.n56⟩
theorem bal9 (w : World) (o : Obj) : Below w.heap.size w (w.alloc o) := (Below.refl _ _).alloc (Nat.le_refl _) _
theorem AS.start (w : World) (L : List Value) : AS w (w.alloc (.cells L.toArray 44)) L none none none none :=
  ⟨ObjAt.made w _ _, bal9 w _, fun m e => (by cases e), fun m e => (by cases e), fun m e => (by cases e), fun m e => (by cases e), fun a b e => (by cases e), fun a b e => (by cases e), fun a b e => (by cases e)⟩
theorem AS.a3 (h : AS w W L none p4 p5 p6) : AS w (W.alloc (.cells #[.bool false, .int .i64 0, .int .i64 0, .int .i64 0, .bool false, .int .u8 0, .int .u8 0, .int .u8 0, .int .u8 0, .int .u8 0, .int .u8 0, .int .u8 0, .int .u8 0, .int .u8 0, .int .u8 0, .int .u8 0, .int .u8 0, .int .u8 0, .int .u8 0, .int .u8 0, .int .u8 0, .bool false, .int .i64 0, .int .i64 0, .slice none 0 0, .slice none 0 0] 28)) L (some W.heap.size) p4 p5 p6 := by
  have k := h.below (bal9 W (.cells #[.bool false, .int .i64 0, .int .i64 0, .int .i64 0, .bool false, .int .u8 0, .int .u8 0, .int .u8 0, .int .u8 0, .int .u8 0, .int .u8 0, .int .u8 0, .int .u8 0, .int .u8 0, .int .u8 0, .int .u8 0, .int .u8 0, .int .u8 0, .int .u8 0, .int .u8 0, .int .u8 0, .bool false, .int .i64 0, .int .i64 0, .slice none 0 0, .slice none 0 0] 28))
  have lt := h.bx.lt
  exact ⟨k.bx, k.bl, fun m e => (by cases e; exact ⟨lt, ObjAt.made W _ _⟩), k.h4, k.h5, k.h6, k.n45, k.n46, k.n56⟩
theorem AS.a4 (h : AS w W L p3 none p5 p6) : AS w (W.alloc (.cells #[.bool false, .int .u8 0, .int .u8 0, .int .u8 0, .int .u8 0, .int .u8 0, .int .u8 0, .int .u8 0, .int .u8 0, .int .u8 0, .int .u8 0, .int .u8 0, .int .u8 0, .int .u8 0, .int .u8 0, .int .u8 0, .int .u8 0] 24)) L p3 (some W.heap.size) p5 p6 := by
  have k := h.below (bal9 W (.cells #[.bool false, .int .u8 0, .int .u8 0, .int .u8 0, .int .u8 0, .int .u8 0, .int .u8 0, .int .u8 0, .int .u8 0, .int .u8 0, .int .u8 0, .int .u8 0, .int .u8 0, .int .u8 0, .int .u8 0, .int .u8 0, .int .u8 0] 24))
  have lt := h.bx.lt
  exact ⟨k.bx, k.bl, k.h3, fun m e => (by cases e; exact ⟨lt, ObjAt.made W _ _⟩), k.h5, k.h6, fun a b e1 e2 => (by cases e1; have := (h.h5 b e2).2.lt; omega), fun a b e1 e2 => (by cases e1; have := (h.h6 b e2).2.lt; omega), k.n56⟩
theorem AS.a5 (h : AS w W L p3 p4 none p6) : AS w (W.alloc (.cells #[.bool false, .int .u8 0, .int .u8 0, .int .u8 0, .int .u8 0, .int .u8 0, .int .u8 0, .int .u8 0, .int .u8 0, .int .u8 0, .int .u8 0, .int .u8 0, .int .u8 0, .int .u8 0, .int .u8 0, .int .u8 0, .int .u8 0] 24)) L p3 p4 (some W.heap.size) p6 := by
  have k := h.below (bal9 W (.cells #[.bool false, .int .u8 0, .int .u8 0, .int .u8 0, .int .u8 0, .int .u8 0, .int .u8 0, .int .u8 0, .int .u8 0, .int .u8 0, .int .u8 0, .int .u8 0, .int .u8 0, .int .u8 0, .int .u8 0, .int .u8 0, .int .u8 0] 24))
  have lt := h.bx.lt
  exact ⟨k.bx, k.bl, k.h3, k.h4, fun m e => (by cases e; exact ⟨lt, ObjAt.made W _ _⟩), k.h6, fun a b e1 e2 => (by cases e2; have := (h.h4 a e1).2.lt; omega), k.n46, fun a b e1 e2 => (by cases e1; have := (h.h6 b e2).2.lt; omega)⟩
theorem AS.a6 (h : AS w W L p3 p4 p5 none) : AS w (W.alloc (.cells #[.bool false, .int .u8 0, .int .u8 0, .int .u8 0, .int .u8 0, .int .u8 0, .int .u8 0, .int .u8 0, .int .u8 0, .int .u8 0, .int .u8 0, .int .u8 0, .int .u8 0, .int .u8 0, .int .u8 0, .int .u8 0, .int .u8 0] 24)) L p3 p4 p5 (some W.heap.size) := by
  have k := h.below (bal9 W (.cells #[.bool false, .int .u8 0, .int .u8 0, .int .u8 0, .int .u8 0, .int .u8 0, .int .u8 0, .int .u8 0, .int .u8 0, .int .u8 0, .int .u8 0, .int .u8 0, .int .u8 0, .int .u8 0, .int .u8 0, .int .u8 0, .int .u8 0] 24))
  have lt := h.bx.lt
  exact ⟨k.bx, k.bl, k.h3, k.h4, k.h5, fun m e => (by cases e; exact ⟨lt, ObjAt.made W _ _⟩), k.n45, fun a b e1 e2 => (by cases e2; have := (h.h4 a e1).2.lt; omega), fun a b e1 e2 => (by cases e2; have := (h.h5 a e1).2.lt; omega)⟩
end
/-- What of the boxed struct is read. -/
def AWS (W : World) (b : Nat) (t : TK) (us ur : Value) (f g o : AD) : Prop := row? W b 0 26 = some (tkC t us ur) ∧ row? W b 26 17 = some (adC f) ∧ row? W b 43 17 = some (adC g) ∧ row? W b 60 17 = some (adC o)
theorem aws_of {W : World} {b : Nat} {t : TK} {us ur : Value} {f g o : AD} (h : ObjAt W b (awC t us ur f g o).toArray 44) (ht : adOk t.g) (hf : adOk f) (hg : adOk g) (ho : adOk o) : AWS W b t us ur f g o := by
  have e0 := tkC_length ht us ur
  have e1 := adC_length hf
  have e2 := adC_length hg
  have e3 := adC_length ho
  unfold awC at h
  exact ⟨obj_rowk (A := []) (M := tkC t us ur) (C := adC f ++ (adC g ++ adC o)) (by simpa using h) rfl e0,
    obj_rowk (A := tkC t us ur) (M := adC f) (C := adC g ++ adC o) (by simpa using h) e0 e1,
    obj_rowk (A := tkC t us ur ++ adC f) (M := adC g) (C := adC o) (by simpa using h) (by rw [List.length_append]; omega) e2,
    obj_rowk (A := tkC t us ur ++ (adC f ++ adC g)) (M := adC o) (C := []) (by simpa using h) (by rw [List.length_append, List.length_append]; omega) e3⟩
theorem obj_ne {w : World} {a b : Nat} {A B : Array Value} {S T : TypeId} (h : ObjAt w a A S) (k : ObjAt w b B T) (hne : S ≠ T) : a ≠ b := fun e => by
  subst e
  unfold ObjAt at h k
  rw [h] at k
  simp only [Option.some.injEq, Obj.cells.injEq] at k
  exact hne k.2.1
/-- A slice's block is none of these. -/
def AdNe (m : Nat) (v : Value) : Prop := ∀ b o n c, v = .slice (some ⟨b, o, none⟩) n c → b ≠ m
def FO (W : World) (T : TK) (u r : Value) (M : Nat → Prop) : Prop := AdsT W u T.src ∧ (∀ m, M m → AdNe m u) ∧ ∃ base q, RQ base W r q ∧ q.map Prod.fst = T.rcs ∧ ∀ x ∈ q, ∀ m, M m → AdNe m x.2
theorem AdT.lt {W : World} {v : Value} (h : AdT W v) : ∀ b o n c, v = .slice (some ⟨b, o, none⟩) n c → b < W.heap.size := fun b o n c e => by
  obtain ⟨_, cur, fz, h2⟩ := h b o n c e
  exact (Array.getElem?_eq_some_iff.1 h2).1
theorem FO.rct {W : World} {T : TK} {u r : Value} {M : Nat → Prop} (h : FO W T u r M) : RcT W r T.rcs := by
  obtain ⟨_, _, base, q, h1, h2, _⟩ := h; exact ⟨base, q, h1, h2⟩
theorem FO.few {N : Nat} {W : World} {T : TK} {u r : Value} {M : Nat → Prop} (hs : AdsN N W u T.src) (hr : RcN N W r T.rcs) (hM : ∀ m, M m → m < N) : FO W T u r M := by
  obtain ⟨base, q, h1, h2, h3⟩ := hr
  exact ⟨hs.t, fun m hm b o n c e => by have := hM m hm; have := hs.2.2 b o n c e; omega, base, q, h1, h2, fun x hx m hm b o n c e => by have := hM m hm; have := h3 x hx b o n c e; omega⟩
theorem FO.below {W W' : World} {T : TK} {u r : Value} {M : Nat → Prop} (h : FO W T u r M) (hb : Below W.heap.size W W') : FO W' T u r M := by
  obtain ⟨h0, h1, base, q, h2, h3, h4⟩ := h
  exact ⟨h0.below hb, h1, base, q, h2.below hb, h3, h4⟩
theorem FO.new {W : World} {T : TK} {u r : Value} {M M' : Nat → Prop} (h : FO W T u r M) (o : Obj) (hM : ∀ m, M' m → M m ∨ m = W.heap.size) : FO (W.alloc o) T u r M' := by
  have k := h.below (bal9 W o)
  obtain ⟨h0, h1, base, q, h2, h3, h4⟩ := h
  refine ⟨k.1, fun m hm => ?_, base, q, h2.below (bal9 W o), h3, fun x hx m hm => ?_⟩
  · rcases hM m hm with h | rfl
    · exact h1 m h
    · exact fun b o n c e => by have := h0.2.lt b o n c e; omega
  · rcases hM m hm with h | rfl
    · exact h4 x hx m h
    · exact fun b o n c e => by have := (h2.2 x hx).2.2.lt b o n c e; omega
theorem FO.off {W W' : World} {T : TK} {u r : Value} {M : Nat → Prop} {m : Nat} {L : Array Value} (h : FO W T u r M) (hm : ObjAt W m L 24) (hM : M m) (hg : W.grownBy W' (some m)) : FO W' T u r M := by
  obtain ⟨h0, h1, base, q, h2, h3, h4⟩ := h
  have key : ∀ v, AdNe m v → ∀ b o n c, v = .slice (some ⟨b, o, none⟩) n c → some b ≠ some m := fun v hv b o n c e h => hv b o n c e (Option.some.inj h)
  refine ⟨⟨h0.1.grown hg (key u (h1 m hM)), h0.2.grown hg (key u (h1 m hM))⟩, h1, base, q, ⟨own_keep9 h2.1 (fun b hb => ?_), fun x hx => ?_⟩, h3, h4⟩
  · have hne := row_ne9 h2.1 hm (by decide)
    refine hg.block b ?_ (fun e => hne (by rw [hb, e]))
    obtain ⟨_, q2 | ⟨g', cap, cur, q1, q2, q3, _⟩⟩ := h2.1
    · rw [q2.1] at hb; simp [Value.ownBlock] at hb
    · rw [q1] at hb; simp only [Value.ownBlock, Option.some.injEq] at hb; subst hb; exact (Array.getElem?_eq_some_iff.1 q3).1
  · obtain ⟨a, b, c⟩ := h2.2 x hx
    exact ⟨a, b.grown hg (key x.2 (h4 x hx m hM)), c.grown hg (key x.2 (h4 x hx m hM))⟩
theorem FO.far {W W' : World} {T : TK} {u r : Value} {M : Nat → Prop} {m : Nat} {L : Array Value} (h : FO W T u r M) (hm : ObjAt W m L 28) (hg : W.grownBy W' (some m)) : FO W' T u r M := by
  obtain ⟨h0, h1, base, q, h2, h3, h4⟩ := h
  exact ⟨h0.far9 hm (by decide) hg, h1, base, q, h2.far9 hm (by decide) (by decide) hg, h3, h4⟩
def PM (p4 p5 p6 : Option Nat) (m : Nat) : Prop := p4 = some m ∨ p5 = some m ∨ p6 = some m
theorem AS.pm {w W : World} {L : List Value} {p3 p4 p5 p6 : Option Nat} (h : AS w W L p3 p4 p5 p6) : ∀ m, PM p4 p5 p6 m → m < W.heap.size := fun m hm => by
  rcases hm with e | e | e
  · exact (h.h4 m e).2.lt
  · exact (h.h5 m e).2.lt
  · exact (h.h6 m e).2.lt
theorem FO.n4 {W : World} {T : TK} {u r : Value} {p5 p6 : Option Nat} (h : FO W T u r (PM none p5 p6)) (o : Obj) : FO (W.alloc o) T u r (PM (some W.heap.size) p5 p6) := h.new o fun m hm => by
  rcases hm with e | e | e
  · right; cases e; rfl
  · left; exact Or.inr (Or.inl e)
  · left; exact Or.inr (Or.inr e)
theorem FO.n5 {W : World} {T : TK} {u r : Value} {p4 p6 : Option Nat} (h : FO W T u r (PM p4 none p6)) (o : Obj) : FO (W.alloc o) T u r (PM p4 (some W.heap.size) p6) := h.new o fun m hm => by
  rcases hm with e | e | e
  · left; exact Or.inl e
  · right; cases e; rfl
  · left; exact Or.inr (Or.inr e)
theorem FO.n6 {W : World} {T : TK} {u r : Value} {p4 p5 : Option Nat} (h : FO W T u r (PM p4 p5 none)) (o : Obj) : FO (W.alloc o) T u r (PM p4 p5 (some W.heap.size)) := h.new o fun m hm => by
  rcases hm with e | e | e
  · left; exact Or.inl e
  · left; exact Or.inr (Or.inl e)
  · right; cases e; rfl
/-- The talk and the addresses in blocks of their own. -/
structure AT (w W : World) (L : List Value) (m3 m4 m5 m6 : Nat) (T : TK) (u r : Value) (A4 A5 A6 : List Value) : Prop where
  bx : ObjAt W w.heap.size L.toArray 44
  bl : Below w.heap.size w W
  tk : TkAt W m3 T u r
  fo : FO W T u r (PM (some m4) (some m5) (some m6))
  o4 : ObjAt W m4 A4.toArray 24
  o5 : ObjAt W m5 A5.toArray 24
  o6 : ObjAt W m6 A6.toArray 24
  l3 : w.heap.size < m3
  l4 : w.heap.size < m4
  l5 : w.heap.size < m5
  l6 : w.heap.size < m6
  n45 : m4 ≠ m5
  n46 : m4 ≠ m6
  n56 : m5 ≠ m6
  fr : A4.length = 17 ∧ A5.length = 17 ∧ A6.length = 17
theorem AS.at {w W : World} {L : List Value} {m3 m4 m5 m6 : Nat} (h : AS w W L (some m3) (some m4) (some m5) (some m6)) {T : TK} {u r : Value} (hf : FO W T u r (PM (some m4) (some m5) (some m6))) (ho : adOk T.g) :
    AT w (aggW W m3 (tkC T u r)) L m3 m4 m5 m6 T u r (#[.bool false, .int .u8 0, .int .u8 0, .int .u8 0, .int .u8 0, .int .u8 0, .int .u8 0, .int .u8 0, .int .u8 0, .int .u8 0, .int .u8 0, .int .u8 0, .int .u8 0, .int .u8 0, .int .u8 0, .int .u8 0, .int .u8 0] : Array Value).toList (#[.bool false, .int .u8 0, .int .u8 0, .int .u8 0, .int .u8 0, .int .u8 0, .int .u8 0, .int .u8 0, .int .u8 0, .int .u8 0, .int .u8 0, .int .u8 0, .int .u8 0, .int .u8 0, .int .u8 0, .int .u8 0, .int .u8 0] : Array Value).toList (#[.bool false, .int .u8 0, .int .u8 0, .int .u8 0, .int .u8 0, .int .u8 0, .int .u8 0, .int .u8 0, .int .u8 0, .int .u8 0, .int .u8 0, .int .u8 0, .int .u8 0, .int .u8 0, .int .u8 0, .int .u8 0, .int .u8 0] : Array Value).toList := by
  obtain ⟨l3, o3⟩ := h.h3 m3 rfl
  obtain ⟨l4, o4⟩ := h.h4 m4 rfl
  obtain ⟨l5, o5⟩ := h.h5 m5 rfl
  obtain ⟨l6, o6⟩ := h.h6 m6 rfl
  have hz := Go.Proofs.YtgpccgcppbdlpaaGreat.z26_eq
  exact ⟨aggW_other h.bx _ (by omega), aggW_below h.bl (by omega) _, ⟨aggW_obj (L := (#[.bool false, .int .i64 0, .int .i64 0, .int .i64 0, .bool false, .int .u8 0, .int .u8 0, .int .u8 0, .int .u8 0, .int .u8 0, .int .u8 0, .int .u8 0, .int .u8 0, .int .u8 0, .int .u8 0, .int .u8 0, .int .u8 0, .int .u8 0, .int .u8 0, .int .u8 0, .int .u8 0, .bool false, .int .i64 0, .int .i64 0, .slice none 0 0, .slice none 0 0] : Array Value).toList) (by simpa using o3) (by rw [tkC_length ho]; rfl) (tkC_one hf.1.1.one hf.rct.rcs.one), ho⟩, hf.far o3 (aggW_grown _ _ _),
    by simpa using aggW_other o4 (tkC T u r) (obj_ne o4 o3 (by decide)), by simpa using aggW_other o5 (tkC T u r) (obj_ne o5 o3 (by decide)), by simpa using aggW_other o6 (tkC T u r) (obj_ne o6 o3 (by decide)), l3, l4, l5, l6, h.n45 _ _ rfl rfl, h.n46 _ _ rfl rfl, h.n56 _ _ rfl rfl, rfl, rfl, rfl⟩
section
variable {w W W' : World} {L : List Value} {m3 m4 m5 m6 : Nat} {T : TK} {u r : Value} {A4 A5 A6 : List Value}
theorem AT.below (h : AT w W L m3 m4 m5 m6 T u r A4 A5 A6) (hb : Below W.heap.size W W') : AT w W' L m3 m4 m5 m6 T u r A4 A5 A6 :=
  ⟨h.bx.below hb h.bx.lt, bstep h.bl hb, h.tk.below hb, h.fo.below hb, h.o4.below hb h.o4.lt, h.o5.below hb h.o5.lt, h.o6.below hb h.o6.lt, h.l3, h.l4, h.l5, h.l6, h.n45, h.n46, h.n56, h.fr⟩
theorem AT.frees (h : AT w W L m3 m4 m5 m6 T u r A4 A5 A6) : free? W m4 0 17 = true ∧ free? W m5 0 17 = true ∧ free? W m6 0 17 = true :=
  ⟨obj_free h.o4 (by simp [h.fr.1]), obj_free h.o5 (by simp [h.fr.2.1]), obj_free h.o6 (by simp [h.fr.2.2])⟩
theorem AT.p4 (h : AT w W L m3 m4 m5 m6 T u r A4 A5 A6) {a : AD} (ha : adOk a) : AT w (aggW W m4 (adC a)) L m3 m4 m5 m6 T u r (adC a) A5 A6 :=
  have l := adC_length ha
  ⟨aggW_other h.bx _ (by have := h.l4; omega), aggW_below h.bl (by have := h.l4; omega) _, ⟨aggW_other h.tk.1 _ (obj_ne h.tk.1 h.o4 (by decide)), h.tk.2⟩, h.fo.off h.o4 (Or.inl rfl) (aggW_grown _ _ _), aggW_obj h.o4 (by rw [l, h.fr.1]) (addrC_one _ _), aggW_other h.o5 _ h.n45.symm, aggW_other h.o6 _ h.n46.symm, h.l3, h.l4, h.l5, h.l6, h.n45, h.n46, h.n56, l, h.fr.2.1, h.fr.2.2⟩
theorem AT.p5 (h : AT w W L m3 m4 m5 m6 T u r A4 A5 A6) {a : AD} (ha : adOk a) : AT w (aggW W m5 (adC a)) L m3 m4 m5 m6 T u r A4 (adC a) A6 :=
  have l := adC_length ha
  ⟨aggW_other h.bx _ (by have := h.l5; omega), aggW_below h.bl (by have := h.l5; omega) _, ⟨aggW_other h.tk.1 _ (obj_ne h.tk.1 h.o5 (by decide)), h.tk.2⟩, h.fo.off h.o5 (Or.inr (Or.inl rfl)) (aggW_grown _ _ _), aggW_other h.o4 _ h.n45, aggW_obj h.o5 (by rw [l, h.fr.2.1]) (addrC_one _ _), aggW_other h.o6 _ h.n56.symm, h.l3, h.l4, h.l5, h.l6, h.n45, h.n46, h.n56, h.fr.1, l, h.fr.2.2⟩
theorem AT.p6 (h : AT w W L m3 m4 m5 m6 T u r A4 A5 A6) {a : AD} (ha : adOk a) : AT w (aggW W m6 (adC a)) L m3 m4 m5 m6 T u r A4 A5 (adC a) :=
  have l := adC_length ha
  ⟨aggW_other h.bx _ (by have := h.l6; omega), aggW_below h.bl (by have := h.l6; omega) _, ⟨aggW_other h.tk.1 _ (obj_ne h.tk.1 h.o6 (by decide)), h.tk.2⟩, h.fo.off h.o6 (Or.inr (Or.inr rfl)) (aggW_grown _ _ _), aggW_other h.o4 _ h.n46, aggW_other h.o5 _ h.n56, aggW_obj h.o6 (by rw [l, h.fr.2.2]) (addrC_one _ _), h.l3, h.l4, h.l5, h.l6, h.n45, h.n46, h.n56, h.fr.1, h.fr.2.1, l⟩
end
section
variable {w W : World} {L : List Value} {m3 m4 m5 m6 : Nat} {T : TK} {u r : Value} {A4 A5 A6 : List Value}
theorem AT.s4 (h : AT w W L m3 m4 m5 m6 T u r A4 A5 A6) (v : Value) : AT w (W.setCell ⟨m4, 0, none⟩ v) L m3 m4 m5 m6 T u r (A4.set 0 v) A5 A6 :=
  ⟨ObjAt.other h.bx _ _ (by have := h.l4; simp; omega), h.bl.setCell (p := ⟨m4, 0, none⟩) (by have := h.l4; simp; omega) v, ⟨ObjAt.other h.tk.1 _ _ (obj_ne h.tk.1 h.o4 (by decide)), h.tk.2⟩, h.fo.off h.o4 (Or.inl rfl) (gset _ _ _ _), by simpa using ObjAt.set h.o4 0 v, ObjAt.other h.o5 _ _ h.n45.symm, ObjAt.other h.o6 _ _ h.n46.symm, h.l3, h.l4, h.l5, h.l6, h.n45, h.n46, h.n56, by simpa using h.fr.1, h.fr.2.1, h.fr.2.2⟩
theorem AT.s5 (h : AT w W L m3 m4 m5 m6 T u r A4 A5 A6) (v : Value) : AT w (W.setCell ⟨m5, 0, none⟩ v) L m3 m4 m5 m6 T u r A4 (A5.set 0 v) A6 :=
  ⟨ObjAt.other h.bx _ _ (by have := h.l5; simp; omega), h.bl.setCell (p := ⟨m5, 0, none⟩) (by have := h.l5; simp; omega) v, ⟨ObjAt.other h.tk.1 _ _ (obj_ne h.tk.1 h.o5 (by decide)), h.tk.2⟩, h.fo.off h.o5 (Or.inr (Or.inl rfl)) (gset _ _ _ _), ObjAt.other h.o4 _ _ h.n45, by simpa using ObjAt.set h.o5 0 v, ObjAt.other h.o6 _ _ h.n56.symm, h.l3, h.l4, h.l5, h.l6, h.n45, h.n46, h.n56, h.fr.1, by simpa using h.fr.2.1, h.fr.2.2⟩
theorem AT.s6 (h : AT w W L m3 m4 m5 m6 T u r A4 A5 A6) (v : Value) : AT w (W.setCell ⟨m6, 0, none⟩ v) L m3 m4 m5 m6 T u r A4 A5 (A6.set 0 v) :=
  ⟨ObjAt.other h.bx _ _ (by have := h.l6; simp; omega), h.bl.setCell (p := ⟨m6, 0, none⟩) (by have := h.l6; simp; omega) v, ⟨ObjAt.other h.tk.1 _ _ (obj_ne h.tk.1 h.o6 (by decide)), h.tk.2⟩, h.fo.off h.o6 (Or.inr (Or.inr rfl)) (gset _ _ _ _), ObjAt.other h.o4 _ _ h.n46, ObjAt.other h.o5 _ _ h.n56, by simpa using ObjAt.set h.o6 0 v, h.l3, h.l4, h.l5, h.l6, h.n45, h.n46, h.n56, h.fr.1, h.fr.2.1, by simpa using h.fr.2.2⟩
theorem AT.cells (h : AT w W L m3 m4 m5 m6 T u r A4 A5 A6) : W.cell? ⟨m4, 0, none⟩ = A4[0]? ∧ W.cell? ⟨m5, 0, none⟩ = A5[0]? ∧ W.cell? ⟨m6, 0, none⟩ = A6[0]? ∧ W.frozen? ⟨m4, 0, none⟩ = false ∧ W.frozen? ⟨m5, 0, none⟩ = false ∧ W.frozen? ⟨m6, 0, none⟩ = false :=
  ⟨by rw [ObjAt.cell h.o4]; simp, by rw [ObjAt.cell h.o5]; simp, by rw [ObjAt.cell h.o6]; simp, ObjAt.free h.o4 0, ObjAt.free h.o5 0, ObjAt.free h.o6 0⟩
theorem AT.rows (h : AT w W L m3 m4 m5 m6 T u r A4 A5 A6) : row? W m3 0 26 = some (tkC T u r) ∧ row? W m4 0 17 = some A4 ∧ row? W m5 0 17 = some A5 ∧ row? W m6 0 17 = some A6 :=
  ⟨h.tk.row, obj_rowk (A := []) (M := A4) (C := []) (by simpa using h.o4) rfl h.fr.1, obj_rowk (A := []) (M := A5) (C := []) (by simpa using h.o5) rfl h.fr.2.1, obj_rowk (A := []) (M := A6) (C := []) (by simpa using h.o6) rfl h.fr.2.2⟩
end
end Go.Proofs.YtgpccgcppbdlpaaGreat
