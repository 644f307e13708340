/-
  The clock's small functions: all, At, Len, New, Cut, Set.
-/
import Derived.Test.YtiegeejbnplhdaaCkM
import Derived.Shelf.SlMaps.Clone
namespace Go.Proofs.Ytiegeejbnplhdaa
open Go.RowKit
set_option linter.unusedVariables false
set_option linter.unusedSimpArgs false

set_option maxRecDepth 100000 in
theorem all_any (p : Value) (l : List EN) (w : World) (h : ClkV w p l) : Calls Try.prog 26 #[p] w fun x w' => (∃ m, x = .returned m ∧ ClkM w m l ∧ ∀ k, m = .map (some k) → ClkB w p k) ∧ w = w' := by
  rcases h with ⟨rfl, rfl⟩ | ⟨b, m, rfl, ho, hm⟩
  · go_enter Try.func26, Try.ntmps26
    go_wp2
    go_ret
    exact ⟨⟨_, rfl, .inl ⟨rfl, rfl⟩, fun k e => by cases e⟩, rfl⟩
  · have c0 : w.cell? ⟨b, 0, none⟩ = some m := ho.cell 0
    have HO := Lib.hid ho
    have HM := Lib.hid hm
    clear ho hm
    go_enter Try.func26, Try.ntmps26
    go_wp2
    go_ret
    exact ⟨⟨_, rfl, HM.out, fun k e => .inr ⟨b, _, rfl, by rw [← e]; exact HO.out⟩⟩, rfl⟩

/-- 'v, ok := m[k]'. -/
theorem wpList_lookM {w : World} {ops : Array Oper} {rest : List Oper} {o : Oper} {a : Act} {Q : Exit → Act → World → Prop} (hgd : o.guard = none) (mo x : Operand) (ho : o.op = Op.lookup 49 mo x true)
    (m : Value) (l : List EN) (k : List UInt8) (hm : a.eval mo = m) (hM : ClkM w m l) (hok : CkOk l) (hx : a.eval x = .string (Str k)) (hk : k.length ≤ maxLen)
    (h : wpList Try.prog ops Q rest (a.put o.dst (.tuple #[.int .i64 (tOf l k), .bool (hasE l k)])) w) : wpList Try.prog ops Q (o :: rest) a w := by
  rcases hM with ⟨rfl, rfl⟩ | ⟨b, rfl, D, hD, hR⟩
  · refine wpList_plain hgd fun K' hK' => ?_
    unfold Oper.wp
    have hrun := Maps.look_nil (w := w) true mapKeyed Try.underlying49 (mapZero w) (keyOf_Str k hk)
    simp only [if_true] at hrun
    simp [execOp, ho, hm, hx, hrun, Result.andThen]
    exact hK' _ _ h
  · refine wpList_lookup_own_ok_int w hgd mo x _ ho _ _ .i64 mapKeyed Try.underlying49 Try.underlying3 (mapZero w) b _ D hm hD _ _ hx (keyOf_Str k hk) fun c hat hwc => ?_
    have e1 : c = tOf l k := by
      have := hat.symm.trans (hR.atk hok k)
      simpa using this
    rw [hR.has, e1]
    exact h
set_option maxRecDepth 100000 in
theorem ckat_any (p : Value) (l : List EN) (k : List UInt8) (w : World) (h : ClkV w p l) (hok : CkOk l) (hk : k.length ≤ maxLen) : Calls Try.prog 21 #[p, .string (Str k)] w fun x w' => x = .returned (.tuple #[.int .i64 (tOf l k), .bool (hasE l k)]) ∧ w = w' := by
  have HA := Lib.hid (all_any p l w h)
  have HO := Lib.hid hok
  clear h hok
  generalize hT : tOf l k = t
  generalize hH : hasE l k = e
  have HT := Lib.hid hT
  have HH := Lib.hid hH
  clear hT hH
  go_enter Try.func21, Try.ntmps21
  go_wp2_with (first
    | (go_at_call 26; refine HA.out.mono ?_; rintro x w1 ⟨⟨m, rfl, hM, hB⟩, rfl⟩; have HM := Lib.hid hM; clear hM hB)
    | (at_lookup; refine wpList_lookM rfl _ _ rfl m l k rfl HM.out HO.out rfl hk ?_; rw [HT.out, HH.out]))
  refine bodyPost_ret (results_tmp2 rfl _ _ _) rfl ?_
  exact ⟨rfl, rfl⟩
/-- 'len(m)'. -/
theorem wpList_lenM {w : World} {ops : Array Oper} {rest : List Oper} {o : Oper} {a : Act} {Q : Exit → Act → World → Prop} (hgd : o.guard = none) (mo : Operand) (ho : o.op = Op.call { callee := Callee.builtin Builtin.len, args := #[mo], argTypes := #[49] })
    (m : Value) (l : List EN) (hm : a.eval mo = m) (hM : ClkM w m l)
    (h : wpList Try.prog ops Q rest (a.put o.dst (.int .i64 (l.length : Nat))) w) : wpList Try.prog ops Q (o :: rest) a w := by
  rcases hM with ⟨rfl, rfl⟩ | ⟨b, rfl, D, hD, hR⟩
  · refine wpList_plain hgd fun K' hK' => ?_
    have hrun := Maps.len_nil (w := w) (P := Try.prog) Try.underlying49 o.type
    unfold Oper.wp
    simp [execOp, ho, resolve, invoke, builtin, hm, hrun, Result.andThen]
    exact hK' _ _ h
  · refine wpList_len_own w hgd mo _ ho _ _ Try.underlying49 _ b _ D hm hD ?_
    rw [hR.size]
    exact h
set_option maxRecDepth 100000 in
theorem len_any (p : Value) (l : List EN) (w : World) (h : ClkV w p l) : Calls Try.prog 24 #[p] w fun x w' => x = .returned (.int .i64 (l.length : Nat)) ∧ w = w' := by
  have HA := Lib.hid (all_any p l w h)
  clear h
  go_enter Try.func24, Try.ntmps24
  go_wp2_with (first
    | (go_at_call 26; refine HA.out.mono ?_; rintro x w1 ⟨⟨m, rfl, hM, hB⟩, rfl⟩; have HM := Lib.hid hM; clear hM hB)
    | (at_len; refine wpList_lenM rfl _ rfl m l rfl HM.out ?_))
  go_ret
  exact ⟨rfl, rfl⟩
set_option maxRecDepth 100000 in
theorem cknew_any (w : World) : Calls Try.prog 6 #[] w fun x w' => x = .returned (.pointer (some ⟨w.heap.size, 0, none⟩)) ∧ ObjAt w' w.heap.size #[.map none] 51 ∧ Below w.heap.size w w' := by
  go_enter Try.func6, Try.ntmps6
  go_wp2
  go_ret
  exact ⟨rfl, ObjAt.made _ _ _, (Below.refl _ _).alloc (Nat.le_refl _) _⟩
/-- 'm[k] = v'. -/
theorem wpList_storeM {w : World} {ops : Array Oper} {rest : List Oper} {o : Oper} {a : Act} {Q : Exit → Act → World → Prop} (hgd : o.guard = none) (mo x vo : Operand) (ho : o.op = Op.mapUpdate 49 mo x vo)
    (b : Nat) (l : List EN) (k : List UInt8) (t : Int) (hm : a.eval mo = .map (some b)) (hM : OwnM w b l) (hn : l.length < maxLen) (hx : a.eval x = .string (Str k)) (hk : k.length ≤ maxLen) (hv : a.eval vo = .int .i64 t) (ht : (Lit.int .i64 t).wf = true)
    (h : ∀ w', OwnM w' b (setE l k t) → w.mapTurned w' b → wpList Try.prog ops Q rest (a.put o.dst undef) w') : wpList Try.prog ops Q (o :: rest) a w := by
  obtain ⟨D, hD, hR⟩ := hM
  exact wpList_mapUpdate_in w hgd mo x vo _ ho _ _ mapKeyed Try.underlying49 _ b _ D hm hD hn _ _ _ hx hv (keyOf_Str k hk) _ [] (plainElem_int Try.underlying3 ht) fun w' h1 h2 => h w' (OwnM.of h1 (hR.put k t)) h2
/-- 'delete(m, k)'. -/
theorem wpList_delM {w : World} {ops : Array Oper} {rest : List Oper} {o : Oper} {a : Act} {Q : Exit → Act → World → Prop} (hgd : o.guard = none) (mo x : Operand) (ho : o.op = Op.call { callee := Callee.builtin Builtin.delete, args := #[mo, x], argTypes := #[49, 9] })
    (m : Value) (l : List EN) (k : List UInt8) (hm : a.eval mo = m) (hM : ClkM w m l) (hx : a.eval x = .string (Str k)) (hk : k.length ≤ maxLen)
    (h : ∀ w', ClkM w' m (cutE l k) → (w' = w ∨ ∃ b, m = .map (some b) ∧ w.mapTurned w' b) → wpList Try.prog ops Q rest (a.put o.dst (.tuple #[])) w') : wpList Try.prog ops Q (o :: rest) a w := by
  rcases hM with ⟨rfl, rfl⟩ | ⟨b, rfl, D, hD, hR⟩
  · refine wpList_plain hgd fun K' hK' => ?_
    have hrun := Maps.drop_nil (w := w) mapKeyed Try.underlying49 (keyOf_Str k hk) o.type
    unfold Oper.wp
    simp [execOp, ho, resolve, invoke, builtin, hm, hx, hrun, Result.andThen]
    exact hK' _ _ (h w (.inl ⟨rfl, rfl⟩) (.inl rfl))
  · exact wpList_delete_own w hgd mo x _ _ ho _ mapKeyed Try.underlying49 _ b _ D hm hD _ _ hx (keyOf_Str k hk) fun w' h1 h2 => h w' (.inr ⟨b, rfl, OwnM.of h1 (hR.del k)⟩) (.inr ⟨b, rfl, h2⟩)
theorem mapTurned_keep {w w' : World} {b : Nat} {S : Nat → Prop} (h : w.mapTurned w' b) (hs : S b) : Keep S w w' := by
  have g := h.grown
  exact ⟨g.os, g.tape, g.output, g.size, fun k hk hn => g.block k hk (fun e => hn (by cases e; exact hs))⟩
theorem Keep.trans {S S' : Nat → Prop} {a b c : World} (h : Keep S a b) (k : Keep S' b c) (hs : ∀ j, S' j → S j ∨ a.heap.size ≤ j) : Keep S a c :=
  ⟨k.os.trans h.os, k.tape.trans h.tape, k.output.trans h.output, Nat.le_trans h.size k.size, fun j hj hn => (k.block j (Nat.lt_of_lt_of_le hj h.size) (fun hS => by
    rcases hs j hS with h1 | h1
    · exact hn h1
    · omega)).trans (h.block j hj hn)⟩
/-- A clock behind what turned its map alone. -/
theorem ClkV.turned {w w' : World} {b bm : Nat} {l : List EN} (ho : ObjAt w b #[.map (some bm)] 51) (h : w.mapTurned w' bm) (hM : OwnM w' bm l) : ClkV w' (.pointer (some ⟨b, 0, none⟩)) l ∧ ObjAt w' b #[.map (some bm)] 51 := by
  have hne : b ≠ bm := fun e => by
    subst e
    obtain ⟨es, c, es', c', h1, h2⟩ := h
    have h3 : w.heap[b]? = some (.cells #[.map (some b)] 51 (0, 0)) := ho
    rw [h3] at h1; cases h1
  have := ho.grown h.grown (by simpa using hne)
  exact ⟨.inr ⟨b, _, rfl, this, .inr ⟨bm, rfl, hM⟩⟩, this⟩
/-- What may turn of a clock. -/
def ClkS (w : World) (p : Value) (w' : World) : Prop := Keep (ClkB w p) w w' ∧ ∀ j, ClkB w' p j → ClkB w p j ∨ w.heap.size ≤ j
theorem ClkS.refl (w : World) (p : Value) : ClkS w p w := ⟨Keep.refl _ _, fun j h => .inl h⟩
theorem ClkS.trans {a b c : World} {p : Value} (h : ClkS a p b) (k : ClkS b p c) : ClkS a p c :=
  ⟨h.1.trans k.1 h.2, fun j hj => by
    rcases k.2 j hj with h1 | h1
    · exact h.2 j h1
    · exact .inr (Nat.le_trans h.1.size h1)⟩
theorem ClkS.below {w w' : World} {p : Value} {l : List EN} (hc : ClkV w p l) (h : Below w.heap.size w w') : ClkS w p w' := by
  refine ⟨Keep.of_below h, fun j hj => ?_⟩
  rcases hj with e | ⟨b, T, e, ho⟩
  · exact .inl (.inl e)
  · rcases hc with ⟨rfl, _⟩ | ⟨b', m, rfl, ho', hm⟩
    · cases e
    · cases e
      have h1 := ho'.below h ho'.lt
      have := h1.symm.trans ho
      simp only [Option.some.injEq, Obj.cells.injEq] at this
      have hm1 : m = .map (some j) := by simpa using this.1
      subst hm1
      exact .inl (.inr ⟨b, _, rfl, ho'⟩)
theorem obj_map {w : World} {b j k : Nat} {T T' : TypeId} (h : ObjAt w b #[.map (some j)] T) (h' : ObjAt w b #[.map (some k)] T') : j = k := by
  have := h.symm.trans h'
  simp only [Option.some.injEq, Obj.cells.injEq] at this
  simpa using this.1

set_option maxRecDepth 100000 in
theorem set_any (b : Nat) (l : List EN) (k : List UInt8) (t : Int) (w : World) (h : ClkV w (.pointer (some ⟨b, 0, none⟩)) l) (hok : CkOk l) (hk : k.length ≤ maxLen) (hll : l.length < 1000000) (ht : (Lit.int .i64 t).wf = true) :
    Calls Try.prog 10 #[.pointer (some ⟨b, 0, none⟩), .string (Str k), .int .i64 t] w fun x w' => x = .returned (.bool (!hasE l k)) ∧ ClkV w' (.pointer (some ⟨b, 0, none⟩)) (setE l k t) ∧ ClkS w (.pointer (some ⟨b, 0, none⟩)) w' := by
  rcases h with ⟨e, _⟩ | ⟨b', m, e, ho, hm⟩
  · cases e
  cases e
  have HN : Hid (l.length < maxLen) := Lib.hid (by unfold maxLen; omega)
  have HO := Lib.hid hok
  have HT := Lib.hid ht
  clear hll hok ht
  rcases hm with ⟨rfl, rfl⟩ | ⟨bm, rfl, hM⟩
  · have c0 : w.cell? ⟨b, 0, none⟩ = some (.map none) := ho.cell 0
    have f0 : w.frozen? ⟨b, 0, none⟩ = false := ho.free 0
    have hlt := ho.lt
    have hmm := @run_makeMap Try.prog
    have hq := fun w => run_eql_map_nil_sl (P := Try.prog) w 49 _ _ none Try.underlying49
    have HM : Hid (OwnM ((w.alloc (.map #[] 0)).setCell ⟨b, 0, none⟩ (.map (some w.heap.size))) w.heap.size []) := Lib.hid
      (OwnM.of ((World.ownsMap_made w _ _ _).setCell (by show w.heap.size ≠ b; omega) _) ReadsE.nil)
    have HB : Hid (ObjAt ((w.alloc (.map #[] 0)).setCell ⟨b, 0, none⟩ (.map (some w.heap.size))) b #[.map (some w.heap.size)] 51) := Lib.hid ((ho.alloc _).set 0 _)
    have HK : Hid (Keep (ClkB w (.pointer (some ⟨b, 0, none⟩))) w ((w.alloc (.map #[] 0)).setCell ⟨b, 0, none⟩ (.map (some w.heap.size)))) := Lib.hid
      ⟨rfl, rfl, rfl, by simp, fun j hj hn => (Below.heap_setCell _ _ _ _ (fun e => hn (.inl (by rw [e])))).trans (Below.heap_alloc _ _ _ hj)⟩
    have c1 : (w.alloc (.map #[] 0)).cell? ⟨b, 0, none⟩ = some (.map none) := (ho.alloc _).cell 0
    have f1 : (w.alloc (.map #[] 0)).frozen? ⟨b, 0, none⟩ = false := (ho.alloc _).free 0
    have c2 : ((w.alloc (.map #[] 0)).setCell ⟨b, 0, none⟩ (.map (some w.heap.size))).cell? ⟨b, 0, none⟩ = some (.map (some w.heap.size)) := HB.out.cell 0
    clear ho hlt
    go_enter Try.func10, Try.ntmps10
    go_wp2_with (first
      | (at_lookup; refine wpList_lookM rfl _ _ rfl _ [] k rfl (.inr ⟨_, rfl, HM.out⟩) HO.out rfl hk ?_)
      | (at_mapUpdate; refine wpList_storeM rfl _ _ _ rfl _ [] k t rfl HM.out HN.out rfl hk rfl HT.out ?_; intro w2 h1 h2; have H1 := Lib.hid h1; have H2 := Lib.hid h2; clear h1 h2))
    go_ret
    obtain ⟨h3, h4⟩ := ClkV.turned HB.out H2.out H1.out
    refine ⟨rfl, h3, HK.out.trans (mapTurned_keep (S := fun j => j = w.heap.size) H2.out rfl) (fun j e => .inr (by omega)), fun j hj => ?_⟩
    rcases hj with e | ⟨b1, T, e, ho1⟩
    · exact .inl (.inl e)
    · cases e
      exact .inr (Nat.le_of_eq (obj_map h4 ho1))
  · have c0 : w.cell? ⟨b, 0, none⟩ = some (.map (some bm)) := ho.cell 0
    have hq := fun w => run_eql_map_nil_sl (P := Try.prog) w 49 _ _ (some bm) Try.underlying49
    have HM := Lib.hid hM
    have HB := Lib.hid ho
    clear ho hM
    generalize hT2 : tOf l k = t2
    generalize hH2 : hasE l k = e2
    have HT2 := Lib.hid hT2
    have HH2 := Lib.hid hH2
    clear hT2 hH2
    go_enter Try.func10, Try.ntmps10
    go_wp2_with (first
      | (at_lookup; refine wpList_lookM rfl _ _ rfl _ l k rfl (.inr ⟨_, rfl, HM.out⟩) HO.out rfl hk ?_; rw [HT2.out, HH2.out])
      | (at_mapUpdate; refine wpList_storeM rfl _ _ _ rfl _ l k t rfl HM.out HN.out rfl hk rfl HT.out ?_; intro w2 h1 h2; have H1 := Lib.hid h1; have H2 := Lib.hid h2; clear h1 h2))
    go_ret
    obtain ⟨h3, h4⟩ := ClkV.turned HB.out H2.out H1.out
    refine ⟨rfl, h3, mapTurned_keep H2.out (.inr ⟨b, _, rfl, HB.out⟩), fun j hj => ?_⟩
    rcases hj with e | ⟨b1, T, e, ho1⟩
    · exact .inl (.inl e)
    · cases e
      exact .inl (.inr ⟨b, _, rfl, by rw [← obj_map h4 ho1]; exact HB.out⟩)
theorem del_clk {w w2 : World} {p m : Value} {l : List EN} {k : List UInt8} (hV : ClkV w p l) (hM : ClkM w m l) (hMB : ∀ k, m = .map (some k) → ClkB w p k) (h1 : ClkM w2 m (cutE l k)) (h2 : w2 = w ∨ ∃ b, m = .map (some b) ∧ w.mapTurned w2 b) : ClkV w2 p (cutE l k) ∧ ClkS w p w2 := by
  have HV := Lib.hid hV
  have HM := Lib.hid hM
  have HMB := Lib.hid hMB
  have H1 := Lib.hid h1
  have H2 := Lib.hid h2
  clear hV hM hMB h1 h2
  rcases H2.out with e | ⟨bm, e, ht⟩
  · subst e
    refine ⟨?_, ClkS.refl _ _⟩
    rcases HV.out with ⟨e1, e2⟩ | ⟨b, m', e1, ho, hm⟩
    · subst e2; exact .inl ⟨e1, rfl⟩
    · rcases HM.out with ⟨_, e3⟩ | ⟨b3, e3, h3⟩
      · subst e3; exact HV.out
      · rcases H1.out with ⟨e4, _⟩ | ⟨b4, e4, h4⟩
        · rw [e3] at e4; cases e4
        · subst e1
          rcases HMB.out b4 e4 with e5 | ⟨b5, T5, e5, ho5⟩
          · cases e5
            obtain ⟨es, c, h5⟩ := h4.isMap
            have h6 : w2.heap[b]? = some (.cells #[m'] 51 (0, 0)) := ho
            rw [h6] at h5; cases h5
          · cases e5
            have h7 := ho.symm.trans ho5
            simp only [Option.some.injEq, Obj.cells.injEq] at h7
            have hm1 : m' = .map (some b4) := by simpa using h7.1
            exact .inr ⟨b, m', rfl, ho, .inr ⟨b4, hm1, h4⟩⟩
  · rcases HV.out with ⟨e1, e2⟩ | ⟨b, m', e1, ho, hm⟩
    · subst e1
      rcases HMB.out bm e with e5 | ⟨b5, T5, e5, ho5⟩ <;> cases e5
    · subst e1
      rcases H1.out with ⟨e4, _⟩ | ⟨b4, e4, h4⟩
      · rw [e] at e4; cases e4
      · rw [e] at e4
        cases e4
        rcases HMB.out bm e with e5 | ⟨b5, T5, e5, ho5⟩
        · cases e5
          obtain ⟨es, c, es', c', h5, _⟩ := ht
          have h6 : w.heap[bm]? = some (.cells #[m'] 51 (0, 0)) := ho
          rw [h6] at h5; cases h5
        · cases e5
          have h7 := ho.symm.trans ho5
          simp only [Option.some.injEq, Obj.cells.injEq] at h7
          have hm1 : m' = .map (some bm) := by simpa using h7.1
          subst hm1
          obtain ⟨h8, h9⟩ := ClkV.turned ho ht h4
          refine ⟨h8, mapTurned_keep ht (.inr ⟨b, _, rfl, ho⟩), fun j hj => ?_⟩
          rcases hj with e | ⟨b1, T, e, ho1⟩
          · exact .inl (.inl e)
          · cases e
            exact .inl (.inr ⟨b, _, rfl, by rw [← obj_map h9 ho1]; exact ho⟩)
set_option maxRecDepth 100000 in
theorem ckcut_any (p : Value) (l : List EN) (k : List UInt8) (w : World) (h : ClkV w p l) (hok : CkOk l) (hk : k.length ≤ maxLen) :
    Calls Try.prog 12 #[p, .string (Str k)] w fun x w' => x = .returned (.bool (hasE l k)) ∧ ClkV w' p (cutE l k) ∧ ClkS w p w' := by
  have HV := Lib.hid h
  have HT := Lib.hid (ckat_any p l k w h hok hk)
  have HA := Lib.hid (all_any p l w h)
  clear h hok
  generalize hH2 : hasE l k = e2
  have HH2 := Lib.hid hH2
  clear hH2
  generalize tOf l k = t2 at HT
  rw [HH2.out] at HT
  go_enter Try.func12, Try.ntmps12
  go_wp2_with (first
    | (go_at_call 21; refine HT.out.mono ?_; rintro x w1 ⟨rfl, rfl⟩)
    | (go_at_call 26; refine HA.out.mono ?_; rintro x w1 ⟨⟨m, rfl, hM, hB⟩, rfl⟩; have HM := Lib.hid hM; have HMB := Lib.hid hB; clear hM hB)
    | (at_delete; refine wpList_delM rfl _ _ rfl m l k rfl HM.out rfl hk ?_; intro w2 h1 h2; have H1 := Lib.hid h1; have H2 := Lib.hid h2; clear h1 h2))
  go_ret
  exact ⟨rfl, del_clk HV.out HM.out HMB.out H1.out H2.out⟩
end Go.Proofs.Ytiegeejbnplhdaa
