/-
  Clocks and lists that a law holds, carried from call to call; the laws' small living call.
-/
import Derived.Test.YtiegeejbnplhdaaClT
namespace Go.Proofs.Ytiegeejbnplhdaa
open Go.RowKit
set_option linter.unusedVariables false
set_option linter.unusedSimpArgs false

/-- A slice that is nil, or lies in a block of its type. -/
def VecS {α : Type} (K : Kind α) (T : TypeId) (w : World) (v : Value) (l : List α) : Prop :=
  (v = .slice none 0 0 ∧ l = []) ∨ ∃ b o cap cs fr, v = .slice (some ⟨b, o, none⟩) l.length cap ∧ l.length ≤ cap ∧ cap ≤ maxLen ∧ w.heap[b]? = some (.cells cs T fr) ∧ K.At w b o l
variable {α : Type} {K : Kind α} {T : TypeId} {w w' : World} {v : Value} {l : List α}
theorem VecS.vec (h : VecS K T w v l) : Vec K w v l := by
  rcases h with ⟨rfl, rfl⟩ | ⟨b, o, cap, cs, fr, rfl, h1, h2, h3, h4⟩
  · exact Vec.nil K w
  · exact ⟨_, _, rfl, h1, h2, (fun e => by cases e), fun _ => ⟨b, o, rfl, (Array.getElem?_eq_some_iff.1 h3).1, h4⟩⟩
theorem OwnV.vecS {base : Nat} (h : OwnV K T w base v l) : VecS K T w v l := by
  have hv := h.vec
  obtain ⟨h1, ⟨h2, h3⟩ | ⟨g, cap, cur, rfl, e2, e3, e4, e5, e6, e7⟩⟩ := h
  · exact .inl ⟨h2, List.eq_nil_of_length_eq_zero h3⟩
  · refine .inr ⟨g, 0, cap, cur, _, rfl, e4, e5, e3, ?_⟩
    by_cases hn : l = []
    · subst hn; exact fun i hi => absurd hi (by simp)
    · obtain ⟨b, o, cap', e, _, _, _, hA⟩ := hv.parts hn
      simp only [Value.slice.injEq, Option.some.injEq, Addr.mk.injEq] at e
      obtain ⟨⟨rfl, rfl, _⟩, _, _⟩ := e
      exact hA
theorem VecS.below (h : VecS K T w v l) (hb : Below w.heap.size w w') : VecS K T w' v l := by
  rcases h with h | ⟨b, o, cap, cs, fr, rfl, h1, h2, h3, h4⟩
  · exact .inl h
  · have hl := (Array.getElem?_eq_some_iff.1 h3).1
    exact .inr ⟨b, o, cap, cs, fr, rfl, h1, h2, (hb.block b hl).trans h3, h4.below hl hb⟩
theorem row?_same {w w' : World} {b o n : Nat} {r : List Value} (e : w'.heap[b]? = w.heap[b]?) (h : row? w b o n = some r) : row? w' b o n = some r := by
  obtain ⟨h1, h2⟩ := rangeAt_of_row? h
  rw [← h2]
  exact row?_of fun j u hu => (World.cell?_of_block (w := w) (a := ⟨b, o + j, none⟩) e).trans (h1 j u hu)
theorem VecS.keepC {p : Value} {m : List EN} (h : VecS K T w v l) (hc : ClkV w p m) (hk : Keep (ClkB w p) w w') (hT : T ≠ 51) : VecS K T w' v l := by
  rcases h with h | ⟨b, o, cap, cs, fr, rfl, h1, h2, h3, h4⟩
  · exact .inl h
  · have e := hk.block b (Array.getElem?_eq_some_iff.1 h3).1 (fun hb => hT (hc.kind hb h3))
    exact .inr ⟨b, o, cap, cs, fr, rfl, h1, h2, e.trans h3, fun i hi => row?_same e (h4 i hi)⟩
theorem VecS.take (h : VecS K T w v l) {n : Nat} (hn : n ≤ l.length) : ∃ q cap, v = .slice q l.length cap ∧ l.length ≤ cap ∧ cap ≤ maxLen ∧ VecS K T w (.slice q n cap) (l.take n) := by
  rcases h with ⟨rfl, rfl⟩ | ⟨b, o, cap, cs, fr, rfl, h1, h2, h3, h4⟩
  · have : n = 0 := by simpa using hn
    subst this
    exact ⟨none, 0, rfl, by simp, by unfold maxLen; omega, .inl ⟨rfl, rfl⟩⟩
  · refine ⟨_, cap, rfl, h1, h2, .inr ⟨b, o, cap, cs, fr, ?_, ?_, h2, h3, h4.take n⟩⟩
    · rw [List.length_take, Nat.min_eq_left hn]
    · rw [List.length_take, Nat.min_eq_left hn]; omega
/-- The clock at block b, all of it made since w0. -/
structure Mine (B : Nat) (w0 w : World) (b : Nat) (l : List EN) : Prop where
  bel : Below B w0 w
  le : B ≤ w.heap.size
  v : ClkV w (.pointer (some ⟨b, 0, none⟩)) l
  own : ∀ j, ClkB w (.pointer (some ⟨b, 0, none⟩)) j → B ≤ j
  ok : EnOk l
theorem Mine.below {B : Nat} {w0 w w' : World} {b : Nat} {l : List EN} (h : Mine B w0 w b l) (hb : Below w.heap.size w w') : Mine B w0 w' b l :=
  ⟨h.bel.trans (hb.mono h.le), Nat.le_trans h.le hb.size, h.v.below hb, fun j hj => by
    rcases (ClkS.below h.v hb).2 j hj with e | e
    · exact h.own j e
    · exact Nat.le_trans h.le e, h.ok⟩
theorem Mine.clk {B : Nat} {w0 w w' : World} {b : Nat} {l l' : List EN} (h : Mine B w0 w b l) (hv : ClkV w' (.pointer (some ⟨b, 0, none⟩)) l') (hs : ClkS w (.pointer (some ⟨b, 0, none⟩)) w') (ho : EnOk l') : Mine B w0 w' b l' :=
  ⟨hs.1.below h.bel h.le h.own, Nat.le_trans h.le hs.1.size, hv, fun j hj => by
    rcases hs.2 j hj with e | e
    · exact h.own j e
    · exact Nat.le_trans h.le e, ho⟩
theorem mnew_any (w : World) : Calls Try.prog 6 #[] w fun x w' => x = .returned (.pointer (some ⟨w.heap.size, 0, none⟩)) ∧ Mine w.heap.size w w' w.heap.size [] := by
  refine (cknew_any w).mono fun x w' ⟨hx, ho, hb⟩ => ⟨hx, hb, hb.size, .inr ⟨_, _, rfl, ho, .inl ⟨rfl, rfl⟩⟩, fun j hj => ?_, EnOk.nil⟩
  rcases hj with e | ⟨b1, T, e, ho1⟩
  · cases e; exact Nat.le_refl _
  · cases e
    have h7 := ho.symm.trans ho1
    simp only [Option.some.injEq, Obj.cells.injEq] at h7
    have hm1 : Value.map none = .map (some j) := by simpa using h7.1
    cases hm1
theorem mset_any {B : Nat} {w0 w : World} {b : Nat} {l : List EN} (h : Mine B w0 w b l) (k : List UInt8) (t : Int) (hk : k.length ≤ maxLen) (hll : l.length < 1000000) (ht : (Lit.int .i64 t).wf = true) :
    Calls Try.prog 10 #[.pointer (some ⟨b, 0, none⟩), .string (Str k), .int .i64 t] w fun x w' => x = .returned (.bool (!hasE l k)) ∧ Mine B w0 w' b (setE l k t) ∧ Keep (ClkB w (.pointer (some ⟨b, 0, none⟩))) w w' :=
  (set_any b l k t w h.v h.ok.ck hk hll ht).mono fun x w' ⟨hx, hv, hs⟩ => ⟨hx, h.clk hv hs (h.ok.set hk ht), hs.1⟩
theorem mcut_any {B : Nat} {w0 w : World} {b : Nat} {l : List EN} (h : Mine B w0 w b l) (k : List UInt8) (hk : k.length ≤ maxLen) :
    Calls Try.prog 12 #[.pointer (some ⟨b, 0, none⟩), .string (Str k)] w fun x w' => x = .returned (.bool (hasE l k)) ∧ Mine B w0 w' b (cutE l k) ∧ Keep (ClkB w (.pointer (some ⟨b, 0, none⟩))) w w' :=
  (ckcut_any _ l k w h.v h.ok.ck hk).mono fun x w' ⟨hx, hv, hs⟩ => ⟨hx, h.clk hv hs (h.ok.cut k), hs.1⟩
theorem mpop_any {B : Nat} {w0 w : World} {b : Nat} {l : List EN} (h : Mine B w0 w b l) (now : Int) (hll : l.length ≤ SB) (hl6 : l.length ≤ 100000) :
    Calls Try.prog 15 #[.pointer (some ⟨b, 0, none⟩), .int .i64 now] w fun x w' => ∃ v', x = .returned v' ∧ Mine B w0 w' b (l.drop (dueE l now)) ∧ Keep (ClkB w (.pointer (some ⟨b, 0, none⟩))) w w' ∧ OwnV KS 9 w' w.heap.size v' (keysE (l.take (dueE l now))) :=
  (ckpop_any _ l now w h.v h.ok hll hl6).mono fun x w' ⟨v', hx, hv, hs, ho⟩ => ⟨v', hx, h.clk hv hs (h.ok.drop _), hs.1, ho⟩
end Go.Proofs.Ytiegeejbnplhdaa
