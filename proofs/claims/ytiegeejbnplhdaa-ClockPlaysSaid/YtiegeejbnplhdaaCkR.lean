/-
  A range over a clock's map, nil or not: what has come, in whatever order.
-/
import Derived.Test.YtiegeejbnplhdaaCkN
namespace Go.Proofs.Ytiegeejbnplhdaa
open Go.RowKit
set_option linter.unusedVariables false
set_option linter.unusedSimpArgs false

/-- Block r is an iterator over the map m, which reads as l; the entries 'done' have come. -/
def RgM (w : World) (m : Value) (r : Nat) (l done : List EN) : Prop :=
  (m = .map none ∧ l = [] ∧ done = [] ∧ w.heap[r]? = some (.mapIter none 0 #[] 0)) ∨
  ∃ (b : Nat) (D : DU) (left : Lit → Bool) (cnt : Nat), m = .map (some b) ∧ w.ranges Try.prog 9 (plainElem Try.prog 3) b r l.length D left cnt ∧ ReadsE D l ∧ done.Nodup ∧ ∀ x, x ∈ done ↔ (x ∈ l ∧ left (.string x.1) = false)
def leftM (w : World) (m : Value) (r : Nat) : Nat := match m with | .map (some b) => w.rangeLeft b r | _ => 0
theorem RgM.clk {w : World} {m : Value} {r : Nat} {l d : List EN} (h : RgM w m r l d) : ClkM w m l := by
  rcases h with ⟨h1, h2, _⟩ | ⟨b, D, left, cnt, h1, h2, h3, _⟩
  · exact .inl ⟨h1, h2⟩
  · exact .inr ⟨b, h1, D, h2.owns, h3⟩
theorem RgM.lt {w : World} {m : Value} {r : Nat} {l d : List EN} (h : RgM w m r l d) : r < w.heap.size := by
  rcases h with ⟨h1, h2, _, h3⟩ | ⟨b, D, left, cnt, h1, h2, h3, _⟩
  · exact (Array.getElem?_eq_some_iff.1 h3).1
  · exact h2.lt
theorem RgM.iter {w : World} {m : Value} {r : Nat} {l d : List EN} (h : RgM w m r l d) : ∃ a b c e, w.heap[r]? = some (.mapIter a b c e) := by
  rcases h with ⟨h1, h2, _, h3⟩ | ⟨b, D, left, cnt, h1, ⟨es, clock, since, seen, c0, _, _, _, _, h2, _⟩, h3, _⟩
  · exact ⟨_, _, _, _, h3⟩
  · exact ⟨_, _, _, _, h2⟩
theorem RgM.kept {w w' : World} {m : Value} {r : Nat} {l d : List EN} {row : Option Nat} (h : RgM w m r l d) (hg : w.grownBy w' row) (h1 : ∀ k, row = some k → ∃ cs T fr, w.heap[k]? = some (.cells cs T fr)) : RgM w' m r l d := by
  obtain ⟨a1, a2, a3, a4, hi⟩ := h.iter
  have hr : some r ≠ row := fun e => by
    obtain ⟨cs, T, fr, this⟩ := h1 r e.symm
    rw [hi] at this; cases this
  rcases h with ⟨h2, h3, h4, h5⟩ | ⟨b, D, left, cnt, h2, h3, h4⟩
  · exact .inl ⟨h2, h3, h4, (hg.block r (Array.getElem?_eq_some_iff.1 h5).1 hr).trans h5⟩
  · have hb : some b ≠ row := fun e => by
      obtain ⟨es, c, h6, _⟩ := h3.owns
      obtain ⟨cs, T, fr, this⟩ := h1 b e.symm
      rw [h6] at this; cases this
    exact .inr ⟨b, D, left, cnt, h2, h3.kept hg hb hr, h4⟩
theorem hasE_mem {l : List EN} {k : List UInt8} (ho : CkOk l) (h : hasE l k = true) : (k, tOf l k) ∈ l := by
  obtain ⟨t, ht⟩ := (hasE_iff l k).1 h
  rw [tOf_mem ho ht]; exact ht
/-- 'range m'. -/
theorem wpList_rangeM {w : World} {ops : Array Oper} {rest : List Oper} {o : Oper} {a : Act} {Q : Exit → Act → World → Prop} (hgd : o.guard = none) (mo : Operand) (ho : o.op = Op.range 49 mo)
    (m : Value) (l : List EN) (hm : a.eval mo = m) (hM : ClkM w m l)
    (h : ∀ w', RgM w' m w.heap.size l [] → w.grownBy w' none → wpList Try.prog ops Q rest (a.put o.dst (.pointer (some ⟨w.heap.size, 0, none⟩))) w') : wpList Try.prog ops Q (o :: rest) a w := by
  rcases hM with ⟨rfl, rfl⟩ | ⟨b, rfl, D, hD, hR⟩
  · refine wpList_plain hgd fun K' hK' => ?_
    have hrun := run_range_nilMap (P := Try.prog) w 49 _ _ Try.underlying49
    unfold Oper.wp
    simp [execOp, ho, hm, hrun, Result.andThen]
    exact hK' _ _ (h _ (.inl ⟨rfl, rfl, rfl, (MapKept.heap_alloc w _).1⟩) (World.grownBy_alloc w _ none))
  · refine wpList_range_own w hgd mo _ ho _ _ mapKeyed Try.underlying49 _ b _ D hm hD fun w' h1 h2 _ => h w' (.inr ⟨b, D, _, _, rfl, h1, hR, List.nodup_nil, fun x => ?_⟩) h2
    rw [hR.has]
    constructor
    · intro hx; cases hx
    · rintro ⟨h3, h4⟩
      have : hasE l x.1 = true := (hasE_iff l x.1).2 ⟨x.2, h3⟩
      rw [this] at h4; cases h4
/-- The step. -/
theorem wpList_nextM {w : World} {ops : Array Oper} {rest : List Oper} {o : Oper} {a : Act} {Q : Exit → Act → World → Prop} (hgd : o.guard = none) (it : Operand) (ho : o.op = Op.next it false)
    (m : Value) (r : Nat) (l done : List EN) (hit : a.eval it = .pointer (some ⟨r, 0, none⟩)) (hM : RgM w m r l done) (hok : CkOk l)
    (hDone : done.Perm l → wpList Try.prog ops Q rest (a.put o.dst (.tuple #[.bool false])) w)
    (hMore : ∀ (k : List UInt8) (t : Int) (w' : World), (k, t) ∈ l → (∀ x ∈ done, x.1 ≠ k) → k.length ≤ maxLen → RgM w' m r l (done ++ [(k, t)]) → leftM w' m r < leftM w m r → w.grownBy w' (some r) →
      (Instr.entry (.pointer (some ⟨r, 0, none⟩))).run Try.prog w' = .ok (.tuple #[.string (Str k), .int .i64 t]) w' → wpList Try.prog ops Q rest (a.put o.dst (.tuple #[.bool true, .string (Str k), .int .i64 t])) w') : wpList Try.prog ops Q (o :: rest) a w := by
  rcases hM with ⟨rfl, rfl, rfl, hr⟩ | ⟨b, D, left, cnt, rfl, hrg, hR, hnd, hd⟩
  · refine wpList_plain hgd fun K' hK' => ?_
    have hrun : (Instr.next (.pointer (some ⟨r, 0, none⟩)) false o.type).run Try.prog w = .ok (.tuple #[.bool false]) w := by
      simp [Instr.next, getObj, Sem.run, hr, Result.andThen]
    unfold Oper.wp
    simp [execOp, ho, hit, hrun, Result.andThen]
    exact hK' _ _ (hDone (List.Perm.refl _))
  · have hnl : l.Nodup := Sorted.nodup ltE_ord hok.s
    refine wpList_next_ranges w hgd it ho _ mapKeyed _ (fun k : List UInt8 => Value.string (Str k)) (Value.int .i64) (fun key kl hk => by obtain ⟨x, hx, _⟩ := Maps.keyOf_str Try.underlying9 hk; exact ⟨x, hx⟩)
      (fun v y hv => by obtain ⟨c, rfl, _⟩ := plainElem_int_inv Try.underlying3 hv; exact ⟨c, rfl⟩) b r _ D left cnt hit hrg (fun _ hl => hDone ?_) (fun k t kl y w' cnt' hkey hlk hv hat hrg' hlt hg _ hen => ?_)
    · refine (List.perm_ext_iff_of_nodup hnd hnl).2 fun x => ?_
      rw [hd x, hl]; simp
    · obtain ⟨k', ek, rfl, hkl⟩ := Maps.keyOf_str Try.underlying9 hkey
      have ek2 : k = k' := encStr_inj ek
      subst ek2
      obtain ⟨c, ec, hy, _⟩ := plainElem_int_inv Try.underlying3 hv
      cases ec
      have hh : hasE l k = true := by rw [← hR.has]; exact Maps.has_true_of_atKey hat
      have ht : tOf l k = t := by
        have h1 := (hR.atk hok k).symm.trans (hat _)
        rw [hy] at h1
        simpa using h1
      have hm : (k, t) ∈ l := by rw [← ht]; exact hasE_mem hok hh
      have hnk : ∀ x ∈ done, x.1 ≠ k := fun x hx e => by
        have := ((hd x).1 hx).2
        rw [e, hlk] at this; cases this
      refine hMore k t w' hm hnk hkl (.inr ⟨b, D, _, cnt', rfl, hrg', hR, ?_, fun x => ?_⟩) ?_ hg hen
      · refine List.nodup_append.2 ⟨hnd, by simp, fun a ha b hb => ?_⟩
        simp only [List.mem_singleton] at hb
        subst hb
        exact fun e => hnk a ha (by rw [e])
      · rw [List.mem_append, List.mem_singleton, hd x]
        rw [sameKey_str]
        constructor
        · rintro (⟨h1, h2⟩ | rfl)
          · exact ⟨h1, by rw [h2]; rfl⟩
          · exact ⟨hm, by simp⟩
        · rintro ⟨h1, h2⟩
          by_cases e : x.1 = k
          · exact .inr (hok.u x h1 (k, t) hm e)
          · rw [decide_eq_false e] at h2
            exact .inl ⟨h1, by simpa using h2⟩
      · show w'.rangeLeft b r < w.rangeLeft b r
        rw [hrg'.left_eq, hrg.left_eq]; exact hlt
end Go.Proofs.Ytiegeejbnplhdaa
