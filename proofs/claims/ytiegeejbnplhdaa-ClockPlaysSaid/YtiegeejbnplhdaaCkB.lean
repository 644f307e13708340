/-
  The document's answers of layer 12: Keys, Cut.
-/
import Derived.Test.YtiegeejbnplhdaaCkA
namespace Go.Proofs.Ytiegeejbnplhdaa
open Go.RowKit
set_option linter.unusedVariables false
set_option linter.unusedSimpArgs false

theorem info_partsV {i : Option TypeInfo} {z : Value} {a b : Nat} (h : i.map (fun i => (i.zero, i.size, i.bytes)) = some (some z, a, b)) : ∃ i0, i = some i0 ∧ i0.zero = some z ∧ i0.size = a ∧ i0.bytes = b := by
  cases i with
  | none => cases h
  | some j => simp at h; exact ⟨j, rfl, h.1, h.2.1, h.2.2⟩
theorem info_st : (Try.prog.info? 9).map (fun i => (i.zero, i.size, i.bytes)) = some (some (.string ByteArray.empty), 1, 16) := by kernel_rfl
theorem info_en : (Try.prog.info? 53).map (fun i => (i.zero, i.size, i.bytes)) = some (some (.agg #[.string ByteArray.empty, .int .i64 0]), 2, 24) := by kernel_rfl
theorem wpList_appS {w : World} {ops : Array Oper} {rest : List Oper} {o : Oper} {a : Act} {Q : Exit → Act → World → Prop} (hgd : o.guard = none) (s x : Operand) (ho : o.op = .call { callee := .builtin .append, args := #[s, x], argTypes := #[36, 36] })
    (base : Nat) (v : Value) (ys zs : List (List UInt8)) (sv : Value) (hs : a.eval s = v) (hown : OwnV KS 9 w base v ys) (hx : a.eval x = sv) (hz : Src KS w sv zs) (hn : ys.length + zs.length ≤ 1000000000) (hbase : base ≤ w.heap.size)
    (h : ∀ v' w', OwnV KS 9 w' base v' (ys ++ zs) → w.grownBy w' v.ownBlock → wpList Try.prog ops Q rest (a.put o.dst v') w') : wpList Try.prog ops Q (o :: rest) a w := by
  obtain ⟨i0, hi0, hz0, hz1, hz2⟩ := info_partsV info_st
  exact wpList_plain hgd fun _ hK => wp_appV Try.underlying36 hi0 hz0 hz1 hz2 rfl (by omega) s x ho base v ys zs sv hs hown hx hz hn hbase fun v' w' h2 h3 => hK _ _ (h v' w' h2 h3)
theorem wpList_appE {w : World} {ops : Array Oper} {rest : List Oper} {o : Oper} {a : Act} {Q : Exit → Act → World → Prop} (hgd : o.guard = none) (s x : Operand) (ho : o.op = .call { callee := .builtin .append, args := #[s, x], argTypes := #[25, 25] })
    (base : Nat) (v : Value) (ys zs : List EN) (sv : Value) (hs : a.eval s = v) (hown : OwnV KE 53 w base v ys) (hx : a.eval x = sv) (hz : Src KE w sv zs) (hn : ys.length + zs.length ≤ 1000000000) (hbase : base ≤ w.heap.size)
    (h : ∀ v' w', OwnV KE 53 w' base v' (ys ++ zs) → w.grownBy w' v.ownBlock → wpList Try.prog ops Q rest (a.put o.dst v') w') : wpList Try.prog ops Q (o :: rest) a w := by
  obtain ⟨i0, hi0, hz0, hz1, hz2⟩ := info_partsV info_en
  exact wpList_plain hgd fun _ hK => wp_appV Try.underlying25 hi0 hz0 hz1 hz2 rfl (by omega) s x ho base v ys zs sv hs hown hx hz hn hbase fun v' w' h2 h3 => hK _ _ (h v' w' h2 h3)
theorem bbV (w : World) (o : Obj) : Below w.heap.size w (w.alloc o) := (Below.refl _ _).alloc (Nat.le_refl _) o
/-- Behind an append of what was made: all that was there is as it was. -/
theorem app_below {α : Type} {K : Kind α} {T : TypeId} {w W W' : World} {v : Value} {l : List α} (hb : Below w.heap.size w W) (ho : OwnV K T W w.heap.size v l) (hg : W.grownBy W' v.ownBlock) : Below w.heap.size w W' :=
  hb.grown hg hb.size (fun k e => (ho.ge k e).1)

set_option maxRecDepth 100000 in
theorem keys12_any (v : Value) (l : List EN) (w : World) (ha : Vec KE w v l) (hll : l.length ≤ 100000) : Calls Try.prog 16 #[v] w fun x w' => ∃ v', x = .returned v' ∧ Below w.heap.size w w' ∧ OwnV KS 9 w' w.heap.size v' (keysE l) := by
  obtain ⟨p, cap, rfl, h1, h2, _⟩ := ha.len
  have HRA : Hid (l ≠ [] → ∃ b o, p = some ⟨b, o, none⟩ ∧ b < w.heap.size ∧ KE.At w b o l) := Lib.hid fun hne => by
    obtain ⟨b, o, cap', e, _, _, h3, h4⟩ := ha.parts hne
    simp only [Value.slice.injEq] at e
    exact ⟨b, o, e.1, h3, h4⟩
  obtain ⟨n, hn⟩ : ∃ n, n = l.length := ⟨_, rfl⟩
  have hmx : n ≤ 100000 := by omega
  rw [← hn]
  have HN := Lib.hid hn
  clear ha hn h1 h2 hll
  go_enter Try.func16, Try.ntmps16
  go_wp2_with fail
  go_loopw [3, 4] (fun u i wr => ∃ k : Nat, k ≤ n ∧ i = .int .i64 k ∧ Hid (OwnV KS 9 wr w.heap.size u (keysE (l.take k))) ∧ Hid (Below w.heap.size w wr)) (fun _ i _ => n - (intOf i).toNat)
  case atStart => exact ⟨0, by omega, rfl, Lib.hid (World.ownsRow_lit w #[] 0 (Nat.le_refl _) (by unfold maxLen; omega) (by simp)), Lib.hid ((Below.refl _ _).alloc (Nat.le_refl _) _)⟩
  case round =>
    obtain ⟨k, hk, rfl, HO, HB⟩ := hrel
    by_cases hlt : k < n
    · have g1 : k < l.length := by rw [← HN.out]; exact hlt
      obtain ⟨b, o, rfl, hbl, RA⟩ := HRA.out (fun e => by rw [e] at g1; exact absurd g1 (by simp))
      have r1 := (KE_key (RA.below hbl HB.out) g1).1
      have hw1 : IntKind.i64.wrap ((k : Int) + 1) = (k : Int) + 1 := by simp only [IntKind.wrap_i64]; omega
      have hk1 : (k : Int) < (n : Int) := by omega
      have HS : Hid (keysE (l.take (k + 1)) = keysE (l.take k) ++ [l[k].1]) := Lib.hid (by unfold keysE; rw [List.take_succ_eq_append_getElem g1, List.map_append]; rfl)
      have HLN : Hid ((keysE (l.take k)).length ≤ 100000) := Lib.hid (by unfold keysE; rw [List.length_map, List.length_take]; omega)
      generalize l[k].1 = c at *
      generalize keysE (l.take k) = A at *
      clear RA hbl g1
      go_wp2_with (at_builtin; refine wpList_appS rfl _ _ rfl w.heap.size _ A [c] _ rfl (OwnV.below HO.out (bbV _ _)) rfl (src_oneV (ObjAt.made _ _ _)) (by have := HLN.out; simp; omega) (by have := HB.out.size; rw [World.size_alloc]; omega) ?_; intro v' w3 hown' hgrow; have HO3 := Lib.hid hown'; have H3 := Lib.hid (app_below (HB.out.alloc HB.out.size _) (OwnV.below HO.out (bbV _ _)) hgrow); clear hown' hgrow)
      go_roundw
      case rel => exact ⟨k + 1, by omega, by go_num, Lib.hid (by rw [HS.out]; exact HO3.out), H3⟩
      case measure => simp [intOf]; omega
    · have hk1 : ¬ (k : Int) < (n : Int) := by omega
      have hkn : k = n := by omega
      have HE : Hid (keysE (l.take k) = keysE l) := Lib.hid (by rw [hkn, HN.out, List.take_length])
      go_wp2
      go_ret
      exact ⟨_, rfl, HB.out, by have := HO.out; rwa [HE.out] at this⟩

theorem cutE_succ {l : List EN} {k : List UInt8} {i : Nat} (hi : i < l.length) : cutE (l.take (i + 1)) k = if l[i].1 = k then cutE (l.take i) k else cutE (l.take i) k ++ [l[i]] := by
  unfold cutE
  rw [List.take_succ_eq_append_getElem hi, List.filter_append]
  by_cases e : l[i].1 = k
  · rw [if_pos e]; simp [e]
  · rw [if_neg e]; simp [e]
set_option maxRecDepth 100000 in
theorem cut12_any (v : Value) (l : List EN) (key : List UInt8) (w : World) (ha : Vec KE w v l) (hll : l.length ≤ 100000) : Calls Try.prog 13 #[v, .string (Str key)] w fun x w' => ∃ v', x = .returned v' ∧ Below w.heap.size w w' ∧ OwnV KE 53 w' w.heap.size v' (cutE l key) := by
  obtain ⟨p, cap, rfl, h1, h2, _⟩ := ha.len
  have HRA : Hid (l ≠ [] → ∃ b o, p = some ⟨b, o, none⟩ ∧ b < w.heap.size ∧ KE.At w b o l) := Lib.hid fun hne => by
    obtain ⟨b, o, cap', e, _, _, h3, h4⟩ := ha.parts hne
    simp only [Value.slice.injEq] at e
    exact ⟨b, o, e.1, h3, h4⟩
  obtain ⟨n, hn⟩ : ∃ n, n = l.length := ⟨_, rfl⟩
  have hmx : n ≤ 100000 := by omega
  rw [← hn]
  have HN := Lib.hid hn
  clear ha hn h1 h2 hll
  go_enter Try.func13, Try.ntmps13
  go_wp2_with fail
  go_loopw [5, 6] (fun u i wr => ∃ k : Nat, k ≤ n ∧ i = .int .i64 k ∧ Hid (OwnV KE 53 wr w.heap.size u (cutE (l.take k) key)) ∧ Hid (Below w.heap.size w wr)) (fun _ i _ => n - (intOf i).toNat)
  case atStart => exact ⟨0, by omega, rfl, Lib.hid (World.ownsRow_lit w #[] 0 (Nat.le_refl _) (by unfold maxLen; omega) (by simp)), Lib.hid ((Below.refl _ _).alloc (Nat.le_refl _) _)⟩
  case round =>
    obtain ⟨k, hk, rfl, HO, HB⟩ := hrel
    by_cases hlt : k < n
    · have g1 : k < l.length := by rw [← HN.out]; exact hlt
      obtain ⟨b, o, rfl, hbl, RA⟩ := HRA.out (fun e => by rw [e] at g1; exact absurd g1 (by simp))
      have r1 := (KE_key (RA.below hbl HB.out) g1).1
      have r2 := (KE_key (RA.below hbl HB.out) g1).2
      have hw1 : IntKind.i64.wrap ((k : Int) + 1) = (k : Int) + 1 := by simp only [IntKind.wrap_i64]; omega
      have hk1 : (k : Int) < (n : Int) := by omega
      have hq := str_beqK l[k].1 key
      have hcs := cutE_succ (k := key) g1
      by_cases he : l[k].1 = key
      · rw [if_pos he] at hcs
        have HS := Lib.hid hcs
        rw [decide_eq_true he] at hq
        generalize l[k].1 = c at *
        generalize l[k].2 = t at *
        clear RA hbl g1 he hcs
        go_wp2
        go_roundw
        case rel => exact ⟨k + 1, by omega, by go_num, Lib.hid (by rw [HS.out]; exact HO.out), HB⟩
        case measure => simp [intOf]; omega
      · rw [if_neg he] at hcs
        have HS : Hid (cutE (l.take (k + 1)) key = cutE (l.take k) key ++ [(l[k].1, l[k].2)]) := Lib.hid hcs
        have HLN : Hid ((cutE (l.take k) key).length ≤ 100000) := Lib.hid (by
          have h3 := List.length_filter_le (fun x : EN => !decide (x.1 = key)) (l.take k)
          rw [List.length_take] at h3
          show (List.filter _ _).length ≤ _
          omega)
        rw [decide_eq_false he] at hq
        clear hcs
        generalize l[k].1 = c at *
        generalize l[k].2 = t at *
        generalize cutE (l.take k) key = A at *
        clear RA hbl g1 he
        go_wp2_with (at_builtin; refine wpList_appE rfl _ _ rfl w.heap.size _ A [(c, t)] _ rfl (OwnV.below HO.out (bbV _ _)) rfl (src_oneV (ObjAt.made _ _ _)) (by have := HLN.out; simp; omega) (by have := HB.out.size; rw [World.size_alloc]; omega) ?_; intro v' w3 hown' hgrow; have HO3 := Lib.hid hown'; have H3 := Lib.hid (app_below (HB.out.alloc HB.out.size _) (OwnV.below HO.out (bbV _ _)) hgrow); clear hown' hgrow)
        go_roundw
        case rel => exact ⟨k + 1, by omega, by go_num, Lib.hid (by rw [HS.out]; exact HO3.out), H3⟩
        case measure => simp [intOf]; omega
    · have hk1 : ¬ (k : Int) < (n : Int) := by omega
      have hkn : k = n := by omega
      have HE : Hid (cutE (l.take k) key = cutE l key) := Lib.hid (by rw [hkn, HN.out, List.take_length])
      go_wp2
      go_ret
      exact ⟨_, rfl, HB.out, by have := HO.out; rwa [HE.out] at this⟩
end Go.Proofs.Ytiegeejbnplhdaa
