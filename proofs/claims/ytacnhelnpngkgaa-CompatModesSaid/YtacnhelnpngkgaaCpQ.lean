/-
  Layer 16: the program's copies of records, each with a list of its own.
-/
import Derived.Test.YtacnhelnpngkgaaCpA
import Derived.Test.YtacnhelnpngkgaaMg31
namespace Go.Proofs.Ytacnhelnpngkgaa
open Go.RowKit
set_option linter.unusedVariables false
set_option linter.unusedSimpArgs false
attribute [local go_sem ↓] ld_addr st_addr bld_addr ld_tk st_tk bld_tk ld_rec st_rec bld_rec rcsLit_eq
attribute [local go_sem] ldr_addr str_addr ldr_tk str_tk ldr_rec row?_drewN_eq row?_drew_eq

theorem own_shapeC {w : World} {b n : Nat} {v : Value} {xs : List Value} {e : TypeId} {z : Nat} (h : w.ownsRow b e z v n xs) : ∃ p n c, v = .slice p n c := by
  obtain ⟨_, h2 | ⟨g, cap, cur, e1, _⟩⟩ := h
  · exact ⟨_, _, _, h2.1⟩
  · exact ⟨_, _, _, e1⟩
/-- An append of all addresses of a slice to nil: a row of one's own. -/
theorem wp_appA {w : World} {o : Oper} {a : Act} {K : Act → World → Prop} {Q : Exit → Act → World → Prop} (s x : Operand) (ho : o.op = .call { callee := .builtin .append, args := #[s, x], argTypes := #[25, 25] })
    (base : Nat) (zs : List AD) (sv : Value) (hs : a.eval s = .slice none 0 0) (hx : a.eval x = sv) (hz : Ads w sv zs) (hn : zs.length ≤ 1000000000000) (hbase : base ≤ w.heap.size)
    (h : ∀ v' w', OwnL w' base v' zs → w.grownBy w' none → K (a.put o.dst v') w') : o.wp Try.prog a w K Q := by
  by_cases hp : ∀ n c, sv = .slice none n c → c = 0
  · exact wp_app s x ho base _ [] zs sv hs (fun x hx => by cases hx) ⟨rfl, .inl ⟨rfl, rfl⟩⟩ hx (src_of hz hp) (by simpa using hn) hbase fun v' w' h1 h2 => h v' w' h1 h2
  · have hl : zs = [] := Classical.byContradiction fun hne => hp fun n c e => by
      obtain ⟨b, o, c', e1, _⟩ := hz.parts hne
      rw [e1] at e; cases e
    subst hl
    obtain ⟨p, cap, e, _, _⟩ := hz.len
    obtain ⟨i0, hi0, hz0, hz1, hz2⟩ := info_parts info_ad
    have hrun : (Builtin.append_ #[25, 25] o.type #[.slice none 0 0, sv]).run Try.prog w = .ok (.slice none 0 0) w := by
      have hu : Try.prog.underlying 25 = some (.slice 24) := Try.underlying25
      cases p with
      | some a => exact absurd (fun n c h => by rw [e] at h; cases h) hp
      | none => subst e; simp [Builtin.append_, run_underlying hu, sizeOf, typeInfo, hi0, Builtin.lenOf, Builtin.firstCells]
    unfold Oper.wp
    simp [execOp, ho, resolve, invoke, builtin, hs, hx, hrun, Result.andThen]
    exact h _ _ ⟨rfl, .inl ⟨rfl, rfl⟩⟩ ⟨rfl, rfl, rfl, Nat.le_refl _, fun _ _ _ => rfl⟩
section
attribute [local go_sem] str_rec
set_option maxRecDepth 100000 in
set_option maxHeartbeats 2000000 in
theorem cown_any (r : RC) (u : Value) (ho : adOk r.g) (w : World) (hu : Ads w u r.src) (hl : r.src.length ≤ 50000) : Calls Try.prog 26 #[.agg (rcC r u).toArray] w fun x w' => ∃ p n c, x = .returned (.agg (rcC r (.slice p n c)).toArray) ∧ Below w.heap.size w w' ∧ AdsT w' (.slice p n c) r.src := by
  obtain ⟨k, g, src⟩ := r
  have H0 : Hid (Bx w ((w.alloc (.cells (rcC ⟨k, g, src⟩ u).toArray 40)).alloc (.cells #[.int .i64 0, .bool false, .int .u8 0, .int .u8 0, .int .u8 0, .int .u8 0, .int .u8 0, .int .u8 0, .int .u8 0, .int .u8 0, .int .u8 0, .int .u8 0, .int .u8 0, .int .u8 0, .int .u8 0, .int .u8 0, .int .u8 0, .int .u8 0, .slice none 0 0] 40)) (rcC ⟨k, g, src⟩ u).toArray 40 #[.int .i64 0, .bool false, .int .u8 0, .int .u8 0, .int .u8 0, .int .u8 0, .int .u8 0, .int .u8 0, .int .u8 0, .int .u8 0, .int .u8 0, .int .u8 0, .int .u8 0, .int .u8 0, .int .u8 0, .int .u8 0, .int .u8 0, .int .u8 0, .slice none 0 0] 40) := Lib.hid (Bx.made w _ _ _ _)
  have hbl := fun p n c w0 => bldr_rec k g ho src p n c w0
  have HU := Lib.hid (fun W (h : Below w.heap.size w W) => hu.below h)
  have HOK := Lib.hid hu.ok
  have HL := Lib.hid hl
  have HG := Lib.hid ho
  have HKS := Lib.hid (fun W (h : ObjAt W w.heap.size (rcC ⟨k, g, src⟩ u).toArray 40) => (⟨(RcO.mk h ho).kind, (RcO.mk h ho).grp, (RcO.mk h ho).src⟩ : W.cell? ⟨w.heap.size, 0, none⟩ = some (.int .i64 k) ∧ row? W w.heap.size 1 17 = some (adC g) ∧ W.cell? ⟨w.heap.size, 18, none⟩ = some u))
  have HLL := Lib.hid (fun v => rcC_length (r := ⟨k, g, src⟩) ho v)
  have hfk : ∀ p n c, fok (rcC ⟨k, g, src⟩ (.slice p n c)).toArray 19 = true := fun p n c => fok_rec (r := ⟨k, g, src⟩) ho rfl
  clear hu hl ho
  go_enter Try.func26, Try.ntmps26
  go_upto_region 1 with (fail)
  generalize (w.alloc _).alloc _ = W at H0 ⊢
  refine wp_region_held_drew (S := fun W => W.cell? ⟨w.heap.size, 0, none⟩ = some (.int .i64 k) ∧ row? W w.heap.size 1 17 = some (adC g) ∧ W.cell? ⟨w.heap.size, 18, none⟩ = some u) (by kernel_rfl) (HKS.out _ (obj_keep H0.out.one (bdrewN (Below.refl _ _) 1))) (fun hHeld => ?_)
  have HD := Lib.hid (H0.out.below (bdrewN (Below.refl _ _) 1))
  replace HD : Hid (Bx w W.drew _ _ _ _) := HD
  generalize World.drew W = Wd at HD hHeld ⊢
  refine wpAnyH_take (i := 0) (oi := { dst := some 3, op := _, type := _, pos := _, after := _, guard := _ }) (v := ?v1) rfl (by kernel_rfl) (by kernel_rfl) (by kernel_rfl) (fun _ _ _ h => h) (Or.inl ⟨by rfl, ?y1⟩) (by assumption) ?r1
  case y1 => (intro w hSw; go_simp; try with_reducible rfl)
  try simp only [Act.put, List.setIfInBounds_toArray, List.set_cons_zero, List.set_cons_succ]
  refine wpAnyH_take (i := 1) (oi := { dst := some 4, op := _, type := _, pos := _, after := _, guard := _ }) (v := ?v2) rfl (by kernel_rfl) (by kernel_rfl) (by kernel_rfl) (fun _ _ _ h => h) (Or.inl ⟨by rfl, ?y2⟩) (by assumption) ?r2
  case y2 => (intro w hSw; go_simp; try with_reducible rfl)
  try simp only [Act.put, List.setIfInBounds_toArray, List.set_cons_zero, List.set_cons_succ]
  refine wpAnyH_take (i := 2) (oi := { dst := some 5, op := _, type := _, pos := _, after := _, guard := _ }) (v := ?v3) rfl (by kernel_rfl) (by kernel_rfl) (by kernel_rfl) (fun _ _ _ h => h) (Or.inl ⟨by rfl, ?y3⟩) (by assumption) ?r3
  case y3 => (intro w hSw; go_simp; try with_reducible rfl)
  try simp only [Act.put, List.setIfInBounds_toArray, List.set_cons_zero, List.set_cons_succ]
  refine wpAnyH_take (i := 3) (oi := { dst := some 6, op := _, type := _, pos := _, after := _, guard := _ }) (v := ?v4) rfl (by kernel_rfl) (by kernel_rfl) (by kernel_rfl) (fun _ _ _ h => h) (Or.inl ⟨by rfl, ?y4⟩) (by assumption) ?r4
  case y4 => (intro w hSw; go_simp; try with_reducible rfl)
  try simp only [Act.put, List.setIfInBounds_toArray, List.set_cons_zero, List.set_cons_succ]
  refine wpAnyH_take (i := 4) (oi := { dst := some 7, op := _, type := _, pos := _, after := _, guard := _ }) (v := ?v5) rfl (by kernel_rfl) (by kernel_rfl) (by kernel_rfl) (fun _ _ _ h => h) (Or.inl ⟨by rfl, ?y5⟩) (by assumption) ?r5
  case y5 => (intro w hSw; go_simp; try with_reducible rfl)
  try simp only [Act.put, List.setIfInBounds_toArray, List.set_cons_zero, List.set_cons_succ]
  refine wpAnyH_take (i := 5) (oi := { dst := some 8, op := _, type := _, pos := _, after := _, guard := _ }) (v := ?v6) rfl (by kernel_rfl) (by kernel_rfl) (by kernel_rfl) (fun _ _ _ h => h) (Or.inl ⟨by rfl, ?y6⟩) (by assumption) ?r6
  case y6 => (intro w hSw; go_simp; try with_reducible rfl)
  try simp only [Act.put, List.setIfInBounds_toArray, List.set_cons_zero, List.set_cons_succ]
  refine wpAnyH_ready (rs := [6]) (by kernel_rfl) (by simp) (AllReadyH.cons (o := _) rfl (fun K hK => ?_) AllReadyH.nil)
  refine step_ap rfl ?_
  refine wp_appA _ _ rfl w.heap.size src u rfl rfl (HU.out _ HD.out.blw) (by have := HL.out; simp only at this; omega) HD.out.blw.size ?_
  intro v' w2 hown' hgrow'
  have hbg := bgrown (Below.refl Wd.heap.size Wd) hgrow' (fun k hk => by cases hk)
  replace HD := Lib.hid (HD.out.below hbg)
  obtain ⟨p1, n1, c1, rfl⟩ := own_shapeC hown'
  have HO := Lib.hid hown'
  clear hown' hgrow' hbg
  have hf := HD.out.free 19 (Nat.le_refl _)
  refine hK.out _ _ ((HKS.out _ HD.out.one)) (fun hHeld => ?_)
  clear hK K
  try simp only [Act.put, List.setIfInBounds_toArray, List.set_cons_zero, List.set_cons_succ]
  refine wpAnyH_take (i := 7) (oi := { dst := some 10, op := _, type := _, pos := _, after := _, guard := _ }) (v := ?v7) rfl (by kernel_rfl) (by kernel_rfl) (by kernel_rfl) (fun _ _ _ h => h) (Or.inl ⟨by rfl, ?y7⟩) (by assumption) ?r7
  case y7 => (intro w hSw; go_simp; try with_reducible rfl)
  try simp only [Act.put, List.setIfInBounds_toArray, List.set_cons_zero, List.set_cons_succ]
  refine wpAnyH_ready (rs := [8]) (by kernel_rfl) (by simp) (AllReadyH.cons (o := { dst := none, op := _, type := _, pos := _, after := _, guard := _ }) rfl (fun K hK => ?_) AllReadyH.nil)
  go_simp
  refine hK.out _ _ ((HKS.out _ (aggW_other HD.out.one (rcC ⟨k, g, src⟩ (.slice p1 n1 c1)) (show w.heap.size ≠ w.heap.size + 1 by omega)))) (fun hHeld => ?_)
  clear hK K
  try simp only [Act.put, List.setIfInBounds_toArray, List.set_cons_zero, List.set_cons_succ]
  have HO2 := Lib.hid (AdsT.offC (HO.out.ads HOK.out) HD.out.two (by decide) (aggW_grown _ _ (rcC ⟨k, g, src⟩ (.slice p1 n1 c1))))
  have HD2 := Lib.hid (HD.out.done (rcC ⟨k, g, src⟩ (.slice p1 n1 c1)) (HLL.out _))
  refine wpAnyH_done (by kernel_rfl) ?_ _
  clear hHeld
  go_wp2
  exact bodyPost_ret (results_cell Try.results26 rfl (ld_some HD2.out.1 (ldr_rec _ _ _))) rfl ⟨_, _, _, rfl, HD2.out.2, HO2.out⟩
end
/-- Some records copied, the others' cells as they were made. -/
structure CpO (w : World) (m : Nat) (rs : List RC) (k : Nat) (W : World) : Prop where
  blw : Below w.heap.size w W
  lt : w.heap.size ≤ m
  le : k ≤ rs.length
  row : ∃ q rest, q.map Prod.fst = rs.take k ∧ rqOk W q ∧ rest.length = (rs.length - k) * 19 ∧ ObjAt W m (rqC q ++ rest).toArray 40
theorem CpO.keep {w W W' : World} {m : Nat} {rs : List RC} {k : Nat} (h : CpO w m rs k W) (hb : Below W.heap.size W W') : CpO w m rs k W' := by
  obtain ⟨q, rest, h1, h2, h3, h4⟩ := h.row
  exact ⟨bstep h.blw hb, h.lt, h.le, q, rest, h1, h2.below hb, h3, obj_keep h4 hb⟩
theorem CpO.free {w W : World} {m : Nat} {rs : List RC} {k : Nat} (h : CpO w m rs k W) (hk : k < rs.length) : free? W m (k * 19) 19 = true := by
  obtain ⟨q, rest, h1, h2, h3, h4⟩ := h.row
  have hq : q.length = k := by have := congrArg List.length h1; rw [List.length_map, List.length_take] at this; omega
  refine obj_free_at h4 _ _ ?_
  rw [List.size_toArray, List.length_append, rqC_length h2, hq, h3]
  omega
theorem CpO.put {w W : World} {m : Nat} {rs : List RC} {k : Nat} (h : CpO w m rs k W) (hk : k < rs.length) {r : RC} (hr : r = rs[k]) (ho : adOk r.g) {u : Value} (hu : AdsT W u r.src) : CpO w m rs (k + 1) (aggO W m (k * 19) (rcC r u)) := by
  obtain ⟨q, rest, h1, h2, h3, h4⟩ := h.row
  have hq : q.length = k := by have := congrArg List.length h1; rw [List.length_map, List.length_take] at this; omega
  have hql := rqC_length h2
  have hrl := rcC_length ho u
  have hsp : rest.length = 19 + (rs.length - (k + 1)) * 19 := by omega
  have hov : over (rqC q ++ rest) (k * 19) (rcC r u) = rqC (q ++ [(r, u)]) ++ rest.drop 19 := by
    rw [rqC_snoc]
    unfold over
    have e1 : (rqC q).length = k * 19 := by rw [hql, hq]
    rw [List.take_append_of_le_length (show k * 19 ≤ (rqC q).length by omega), List.take_of_length_le (show (rqC q).length ≤ k * 19 by omega), hrl, List.drop_append, List.drop_of_length_le (show (rqC q).length ≤ k * 19 + 19 by omega), e1, List.nil_append, show k * 19 + 19 - k * 19 = 19 by omega, List.append_assoc]
  have hgr : W.grownBy (aggO W m (k * 19) (rcC r u)) (some m) := by rw [aggO_eq]; exact setCells_grown m _ _ W
  refine ⟨aggO_below h.blw h.lt _ _, h.lt, hk, q ++ [(r, u)], rest.drop 19, ?_, ?_, by rw [List.length_drop]; omega, ?_⟩
  · rw [List.map_append, h1, List.map_cons, List.map_nil, hr, List.take_succ_eq_append_getElem hk]
  · intro x hx
    rcases List.mem_append.1 hx with h5 | h5
    · obtain ⟨a, b, c⟩ := h2 x h5
      have := AdsT.offC (⟨b, c⟩ : AdsT W x.2 x.1.src) h4 (by decide) hgr
      exact ⟨a, this.1, this.2⟩
    · rw [List.mem_singleton] at h5
      subst h5
      have := AdsT.offC hu h4 (by decide) hgr
      exact ⟨ho, this.1, this.2⟩
  · rw [← hov]
    exact aggO_obj h4 (by rw [List.length_append, hql, hrl]; omega) (rcC_one hu.1.one)
theorem CpO.done {w W : World} {m : Nat} {rs : List RC} (h : CpO w m rs rs.length W) (hn : rs.length ≤ maxLen) : Rcs W (.slice (some ⟨m, 0, none⟩) rs.length rs.length) rs := by
  obtain ⟨q, rest, h1, h2, h3, h4⟩ := h.row
  rw [List.take_length] at h1
  rw [Nat.sub_self, Nat.zero_mul] at h3
  obtain rfl := List.eq_nil_of_length_eq_zero h3
  have hq : q.length = rs.length := by rw [← h1, List.length_map]
  have hql := rqC_length h2
  rw [← h1, List.length_map]
  refine RQ.rcs (base := m) ⟨⟨hql, .inr ⟨m, q.length, _, rfl, Nat.le_refl _, h4, Nat.le_refl _, by omega, ?_, ?_⟩⟩, h2⟩
  · rw [List.append_nil, List.size_toArray, hql]
  · rw [List.append_nil, List.take_of_length_le (by rw [hql]; omega)]
theorem CpO.made {w W : World} {rs : List RC} {xs : List Value} (hb : Below w.heap.size w W) (h : W.ownsRow w.heap.size 40 19 (.slice (some ⟨w.heap.size, 0, none⟩) rs.length rs.length) rs.length xs) : CpO w w.heap.size rs 0 W := by
  obtain ⟨h1, h2 | ⟨g, cap, cur, e, h3, h4, h5, h6, h7, h8⟩⟩ := h
  · cases h2.1
  · simp only [Value.slice.injEq, Option.some.injEq, Addr.mk.injEq] at e
    obtain ⟨⟨rfl, _⟩, _, rfl⟩ := e
    exact ⟨hb, Nat.le_refl _, Nat.zero_le _, [], cur.toList, rfl, (fun x hx => by cases hx), (by simpa using h7), h4⟩
theorem str_rec_at (b o : Nat) (cs : Array Value) (w : World) : (aggSt 40 ⟨b, o, none⟩ (.agg cs)).run Try.prog w = match free? w b o 19 && fok cs 19 with | true => .ok () (aggO w b o cs.toList) | false => aggStSlowO 40 b o (.agg cs) w :=
  st_run_at (by kernel_rfl) b o cs w
attribute [local go_sem] str_rec_at
theorem aggO_zero (w : World) (b : Nat) (cs : List Value) : aggO w b 0 cs = aggW w b cs := by rw [aggO_eq, aggW_eq]
set_option maxRecDepth 100000 in
set_option maxHeartbeats 2000000 in
theorem ccopied_any (rs : List RC) (v : Value) (w : World) (hr : Rcs w v rs) (hl : rs.length ≤ 1000) (hs : ∀ r ∈ rs, r.src.length ≤ 50000) : Calls Try.prog 25 #[v] w fun x w' => ∃ v', x = .returned v' ∧ Below w.heap.size w w' ∧ Rcs w' v' rs := by
  obtain ⟨p, cap, rfl, hc1, hc2⟩ := hr.len
  have HRA : Hid (∀ i (hi : i < rs.length), ∃ b o, p = some ⟨b, o, none⟩ ∧ RcAt w b (o + i * 19) rs[i]) := Lib.hid fun i hi => by
    obtain ⟨b, o, c, e, _, _, h⟩ := hr.parts (fun e => by subst e; exact absurd hi (by simp))
    simp only [Value.slice.injEq] at e
    exact ⟨b, o, e.1, h i hi⟩
  have HS := Lib.hid hs
  obtain ⟨i0, hi, hz0, hz1, hz2⟩ := info_parts info_rec
  obtain ⟨n, hn⟩ : ∃ n, n = rs.length := ⟨_, rfl⟩
  rw [← hn] at hl hc1 ⊢
  have HN := Lib.hid hn
  have HL := Lib.hid hl
  clear hr hs hn hc1 hc2 hl
  go_enter Try.func25, Try.ntmps25
  go_wp2_with (at_make; refine wpList_make_full _ rfl _ _ 26 rfl w.heap.size 40 i0 _ 19 Try.underlying26 hi hz0 hz1 .i64 .i64 _ _ n rfl rfl rfl rfl ?c1 ?c2 ?c3 ?_)
  case c1 => rw [hz2]; have := HL.out; omega
  case c2 => have := HL.out; unfold maxLen; omega
  case c3 => exact Nat.le_refl _
  intro w1 hown hgrow
  have H1 : Hid (CpO w w.heap.size rs 0 w1) := Lib.hid (CpO.made (bgrown (Below.refl _ _) hgrow (fun k hk => by cases hk)) (by rw [HN.out] at hown; exact hown))
  clear hown hgrow hi hz0 hz1 hz2
  go_wp2
  go_loopw [11] (fun i wr => ∃ k : Nat, k ≤ n ∧ i = .int .i64 k ∧ Hid (CpO w w.heap.size rs k wr)) (fun i _ => n - (intOf i).toNat)
  case atStart => exact ⟨0, Nat.zero_le _, rfl, H1⟩
  case round =>
    obtain ⟨k, hk, rfl, H2⟩ := hrel
    have hmx : n ≤ 1000 := HL.out
    by_cases hlt : k < n
    · have hd : (k : Int) < (n : Int) := by omega
      obtain ⟨b, o, rfl, ha⟩ := HRA.out k (by rw [← HN.out]; exact hlt)
      generalize hR : rs[k]'(by rw [← HN.out]; exact hlt) = R at ha
      have HR : Hid (∃ h : k < rs.length, R = rs[k]) := Lib.hid ⟨by rw [← HN.out]; exact hlt, hR.symm⟩
      have hsr : R.src.length ≤ 50000 := HS.out R (by rw [← hR]; exact List.getElem_mem _)
      obtain ⟨ho, hbl, U, hrw, hu⟩ := ha.below H2.out.blw
      have HO := Lib.hid ho
      have HU := Lib.hid hu
      have HSR := Lib.hid hsr
      have hfm := fun W => fmade W #[.int .i64 0, .bool false, .int .u8 0, .int .u8 0, .int .u8 0, .int .u8 0, .int .u8 0, .int .u8 0, .int .u8 0, .int .u8 0, .int .u8 0, .int .u8 0, .int .u8 0, .int .u8 0, .int .u8 0, .int .u8 0, .int .u8 0, .int .u8 0, .slice none 0 0] 40 19 rfl
      have hfk : fok (rcC R U).toArray 19 = true := fok_rec ho hu.one
      clear ha hR hu hsr hbl
      go_upto_region 5 with (fail)
      rw [aggO_zero]
      have HN3 := Lib.hid (newObj (L := rcC R U) wr #[.int .i64 0, .bool false, .int .u8 0, .int .u8 0, .int .u8 0, .int .u8 0, .int .u8 0, .int .u8 0, .int .u8 0, .int .u8 0, .int .u8 0, .int .u8 0, .int .u8 0, .int .u8 0, .int .u8 0, .int .u8 0, .int .u8 0, .int .u8 0, .slice none 0 0] 40 (by rw [rcC_length HO.out]; rfl) (rcC_one HU.out.one))
      have H3 := Lib.hid (H2.out.keep (newBlw wr (.cells #[.int .i64 0, .bool false, .int .u8 0, .int .u8 0, .int .u8 0, .int .u8 0, .int .u8 0, .int .u8 0, .int .u8 0, .int .u8 0, .int .u8 0, .int .u8 0, .int .u8 0, .int .u8 0, .int .u8 0, .int .u8 0, .int .u8 0, .int .u8 0, .slice none 0 0] 40) (rcC R U)))
      have HU3 := Lib.hid (HU.out.below (newBlw wr (.cells #[.int .i64 0, .bool false, .int .u8 0, .int .u8 0, .int .u8 0, .int .u8 0, .int .u8 0, .int .u8 0, .int .u8 0, .int .u8 0, .int .u8 0, .int .u8 0, .int .u8 0, .int .u8 0, .int .u8 0, .int .u8 0, .int .u8 0, .int .u8 0, .slice none 0 0] 40) (rcC R U)))
      generalize aggW _ _ _ = W3 at HN3 H3 HU3 ⊢
      generalize wr.heap.size = m3 at HN3 ⊢
      clear H2 hrw hfm hfk HU
      have r3 : row? W3 m3 0 19 = some (rcC R U) := (RcO.mk HN3.out HO.out).row
      go_wp2_with (go_at_call 26; (with_reducible refine (cown_any R U HO.out _ HU3.out HSR.out).mono ?_); rintro x w4 ⟨p4, n4, c4, rfl, hb, hv⟩; have H4 := Lib.hid (H3.out.keep hb); have HV := Lib.hid hv; clear hb hv r3; have hf4 := H4.out.free HR.out.1; have hfk4 : fok (rcC R (.slice p4 n4 c4)).toArray 19 = true := fok_rec HO.out rfl)
      go_roundw
      case rel => exact ⟨k + 1, by omega, by go_num, Lib.hid (H4.out.put HR.out.1 HR.out.2 HO.out HV.out)⟩
      case measure => simp [intOf]; omega
    · have hd : ¬ (k : Int) < (n : Int) := by omega
      have hkn : k = rs.length := by rw [← HN.out]; omega
      subst hkn
      go_wp2
      go_ret
      exact ⟨_, rfl, H2.out.blw, by have h := H2.out.done (by rw [← HN.out]; have := HL.out; unfold maxLen; omega); rw [← HN.out] at h; exact h⟩
end Go.Proofs.Ytacnhelnpngkgaa
