/-
  The keys that are due, in no order: until.
-/
import Derived.Test.YtiegeejbnplhdaaCkR
namespace Go.Proofs.Ytiegeejbnplhdaa
open Go.RowKit
set_option linter.unusedVariables false
set_option linter.unusedSimpArgs false

theorem OwnV.cells {α : Type} {K : Kind α} {T : TypeId} {w : World} {base : Nat} {v : Value} {l : List α} (h : OwnV K T w base v l) : ∀ k, v.ownBlock = some k → ∃ cs T fr, w.heap[k]? = some (.cells cs T fr) := by
  obtain ⟨h1, h2 | ⟨g, cap, cur, e1, e2, e3, e4⟩⟩ := h
  · intro k hk; rw [h2.1] at hk; cases hk
  · intro k hk; rw [e1] at hk; cases hk; exact ⟨_, _, _, e3⟩
theorem OwnV.kept {α : Type} {K : Kind α} {T : TypeId} {w w' : World} {base : Nat} {v : Value} {l : List α} {r : Nat} (h : OwnV K T w base v l) (hg : w.grownBy w' (some r)) (hr : ∀ cs T fr, w.heap[r]? ≠ some (.cells cs T fr)) : OwnV K T w' base v l := by
  obtain ⟨h1, h2 | ⟨g, cap, cur, e1, e2, e3, e4⟩⟩ := h
  · exact ⟨h1, .inl h2⟩
  · refine ⟨h1, .inr ⟨g, cap, cur, e1, e2, (hg.block g (Array.getElem?_eq_some_iff.1 e3).1 (fun e => ?_)).trans e3, e4⟩⟩
    cases e
    exact hr _ _ _ e3
theorem RgM.noCells {w : World} {m : Value} {r : Nat} {l d : List EN} (h : RgM w m r l d) : ∀ cs T fr, w.heap[r]? ≠ some (.cells cs T fr) := fun cs T fr e => by
  obtain ⟨a, b, c, d, h1⟩ := h.iter
  rw [h1] at e; cases e
def tillE (now : Int) (l : List EN) : List (List UInt8) := keysE (l.filter (fun x => decide (x.2 ≤ now)))
theorem tillE_perm {now : Int} {l m : List EN} (h : l.Perm m) : (tillE now l).Perm (tillE now m) := (h.filter _).map _
theorem tillE_snoc (now : Int) (l : List EN) (k : List UInt8) (t : Int) : tillE now (l ++ [(k, t)]) = tillE now l ++ (if t ≤ now then [k] else []) := by
  unfold tillE keysE
  rw [List.filter_append, List.map_append]
  by_cases h : t ≤ now <;> simp [h]
theorem tillE_len (now : Int) (l : List EN) : (tillE now l).length ≤ l.length := by
  unfold tillE keysE
  rw [List.length_map]; exact List.length_filter_le _ _
theorem RgM.len {w : World} {m : Value} {r : Nat} {l d : List EN} (h : RgM w m r l d) : d.length ≤ l.length := by
  rcases h with ⟨_, h2, h3, _⟩ | ⟨b, D, left, cnt, h1, h2, h3, h4, h5⟩
  · subst h3; simp
  · exact List.Nodup.length_le_of_subset h4 (fun x hx => ((h5 x).1 hx).1)
theorem leftM_kept {w w' : World} {m : Value} {r : Nat} {l d : List EN} {row : Option Nat} (h : RgM w m r l d) (hg : w.grownBy w' row) (h1 : ∀ k, row = some k → ∃ cs T fr, w.heap[k]? = some (.cells cs T fr)) : leftM w' m r = leftM w m r := by
  have h2 := h.kept hg h1
  obtain ⟨a1, a2, a3, a4, hi⟩ := h.iter
  have hr : some r ≠ row := fun e => by
    obtain ⟨cs, T, fr, this⟩ := h1 r e.symm
    rw [hi] at this; cases this
  rcases h with ⟨rfl, _⟩ | ⟨b, D, left, cnt, rfl, h3, _⟩
  · rfl
  · have hb : some b ≠ row := fun e => by
      obtain ⟨es, c, h6, _⟩ := h3.owns
      obtain ⟨cs, T, fr, this⟩ := h1 b e.symm
      rw [h6] at this; cases this
    show w'.rangeLeft b r = w.rangeLeft b r
    unfold World.rangeLeft
    rw [hg.block b h3.owns.lt hb, hg.block r h3.lt hr]

set_option maxRecDepth 100000 in
theorem until_any (p : Value) (l : List EN) (now : Int) (w : World) (h : ClkV w p l) (hok : CkOk l) (hll : l.length ≤ 100000) :
    Calls Try.prog 27 #[p, .int .i64 now] w fun x w' => ∃ v', x = .returned v' ∧ Below w.heap.size w w' ∧ ∃ ks, OwnV KS 9 w' w.heap.size v' ks ∧ ks.Perm (tillE now l) ∧ (ks = [] → v' = .slice none 0 0) := by
  have HA := Lib.hid (all_any p l w h)
  have HO := Lib.hid hok
  clear h hok
  go_enter Try.func27, Try.ntmps27
  go_wp2_with (first
    | (go_at_call 26; refine HA.out.mono ?_; rintro x w1 ⟨⟨m, rfl, hM, hB⟩, rfl⟩; have HM := Lib.hid hM; clear hM hB)
    | (at_range; refine wpList_rangeM rfl _ rfl m l rfl HM.out ?_; intro w1 h1 h2; have H1 := Lib.hid h1; have HB1 := Lib.hid ((Below.refl w.heap.size w).grown h2 (Nat.le_refl _) (fun k e => by cases e)); clear h1 h2))
  go_frame
  generalize hr : w.heap.size = r at *
  have HR := Lib.hid hr
  clear hr
  go_loopw [5] (fun u wr => ∃ done, Hid (RgM wr m r l done) ∧ Hid (OwnV KS 9 wr r u (tillE now done)) ∧ Hid (Below r w wr) ∧ Hid (tillE now done = [] → u = .slice none 0 0)) (fun _ wr => leftM wr m r)
  case atStart => exact ⟨[], H1, Lib.hid (World.ownsRow_nil _ _ _ _), HB1, Lib.hid (fun _ => rfl)⟩
  case round =>
    clear H1 HB1
    obtain ⟨done, HG, HW, HB, HZN⟩ := hrel
    go_wp2_with (at_next; refine wpList_nextM rfl _ rfl m r l done rfl HG.out HO.out ?_ ?_)
    · intro hp
      have HP := Lib.hid hp
      clear hp
      go_wp2
      go_ret
      rw [HR.out]
      exact ⟨_, rfl, HB.out, _, HW.out, tillE_perm HP.out, HZN.out⟩
    · intro k t w2 hm hn hk hG2 hlt hg hen
      have HS := Lib.hid (tillE_snoc now done k t)
      have HG2 := Lib.hid hG2
      have HL := Lib.hid hlt
      have HW2 := Lib.hid (OwnV.kept HW.out hg HG.out.noCells)
      have HB2 := Lib.hid (HB.out.grown hg (by rw [← HR.out]; exact HB.out.size) (fun k e => by cases e; exact Nat.le_refl _))
      have HZ : Hid (r ≤ w2.heap.size) := Lib.hid (by rw [← HR.out]; exact HB2.out.size)
      have HLN : Hid ((tillE now done).length ≤ 100000) := Lib.hid (Nat.le_trans (tillE_len now done) (Nat.le_trans HG.out.len hll))
      clear hm hn hk hG2 hlt hg
      generalize tillE now done = A at *
      by_cases ht : t ≤ now
      · rw [if_pos ht] at HS
        go_wp2_with (at_builtin; refine wpList_appS rfl _ _ rfl r _ A [k] _ rfl (OwnV.below HW2.out (bbV _ _)) rfl (src_oneV (ObjAt.made _ _ _)) (by have := HLN.out; simp; omega) (by have := HZ.out; rw [World.size_alloc]; omega) ?_; intro v' w3 hown' hgrow; have HO3 := Lib.hid hown'; have HGR := Lib.hid hgrow; have H3 := Lib.hid ((HB2.out.alloc HZ.out (.cells #[Value.string (Str k)] 9)).grown hgrow (by rw [World.size_alloc]; have := HZ.out; omega) (fun k e => (OwnV.ge HW2.out k e).1)); clear hown' hgrow)
        go_roundw
        case rel =>
          have h5 := (HG2.out.kept (World.grownBy_alloc w2 (.cells #[Value.string (Str k)] 9) none) (fun k e => by cases e)).kept HGR.out (OwnV.cells (OwnV.below HW2.out (bbV _ _)))
          exact ⟨done ++ [(k, t)], Lib.hid h5, Lib.hid (by rw [HS.out]; exact HO3.out), H3, Lib.hid (fun e => by rw [HS.out] at e; simp at e)⟩
        case measure =>
          rw [leftM_kept (HG2.out.kept (World.grownBy_alloc w2 (.cells #[Value.string (Str k)] 9) none) (fun k e => by cases e)) HGR.out (OwnV.cells (OwnV.below HW2.out (bbV _ _))), leftM_kept HG2.out (World.grownBy_alloc w2 (.cells #[Value.string (Str k)] 9) none) (fun k e => by cases e)]
          exact HL.out
      · rw [if_neg ht, List.append_nil] at HS
        go_wp2
        go_roundw
        case rel => exact ⟨done ++ [(k, t)], HG2, Lib.hid (by rw [HS.out]; exact HW2.out), HB2, Lib.hid (fun e => by rw [HS.out] at e; exact HZN.out e)⟩
        case measure => exact HL.out
end Go.Proofs.Ytiegeejbnplhdaa
