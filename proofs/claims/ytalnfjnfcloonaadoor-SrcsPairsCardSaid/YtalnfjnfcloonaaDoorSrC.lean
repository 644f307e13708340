/-
  The contracts of the document's Of, Pick and Or of layer 11.
-/
import Derived.Test.YtalnfjnfcloonaaDoorSrB
namespace Go.Proofs.YtalnfjnfcloonaaDoor
open Go.RowKit
set_option linter.unusedVariables false
set_option linter.unusedSimpArgs false
attribute [local go_sem ↓] ld_addr adsLit_eq
attribute [local go_sem] ldr_addr row?_drewN_eq row?_drew_eq


def ofA (l : List AD) : List AD := ofS ltA goodB l
theorem ofA_succ {l : List AD} {k : Nat} (h : k < l.length) : ofA (l.take (k + 1)) = addS ltA goodB (ofA (l.take k)) l[k] := by
  unfold ofA ofS
  rw [List.take_succ_eq_append_getElem h, List.foldl_append]
  rfl
theorem ofA_good (l : List AD) : ∀ x ∈ ofA l, goodB x = true := ofS_good (ltA_ord goodB) l
theorem mem_ofA (l : List AD) (x : AD) : x ∈ ofA l ↔ x ∈ l ∧ goodB x = true := mem_ofS (ltA_ord goodB) l x
theorem addS_length (l : List AD) (a : AD) : (addS ltA goodB l a).length ≤ l.length + 1 := by
  unfold addS
  split
  · omega
  · unfold insS
    have h := congrArg List.length (List.takeWhile_append_dropWhile (p := (ltA · a)) (l := l))
    simp only [List.length_append, List.length_cons] at h ⊢
    omega
theorem foldl_add_length : ∀ (l acc : List AD), (l.foldl (addS ltA goodB) acc).length ≤ acc.length + l.length
  | [], acc => by simp
  | a :: r, acc => by
    have h1 := foldl_add_length r (addS ltA goodB acc a)
    have h2 := addS_length acc a
    simp only [List.foldl_cons, List.length_cons]
    omega
theorem ofA_length (l : List AD) : (ofA l).length ≤ l.length := by
  have := foldl_add_length l []
  unfold ofA ofS
  simpa using this
theorem ofA_ok {l : List AD} (h : ∀ a ∈ l, adOk a) : ∀ a ∈ ofA l, adOk a := fun a ha => h a ((mem_ofA l a).1 ha).1
/-- A set of one's own. -/
def OwnL (w : World) (base : Nat) (v : Value) (l : List AD) : Prop := w.ownsRow base 25 17 v l.length (adsC l)
theorem OwnL.below {w w' : World} {base : Nat} {v : Value} {l : List AD} (h : OwnL w base v l) (hb : Below w.heap.size w w') : OwnL w' base v l := own_belowS h hb
theorem OwnL.ads {w : World} {base : Nat} {v : Value} {l : List AD} (h : OwnL w base v l) (ho : ∀ a ∈ l, adOk a) : AdsT w v l := ⟨Ads.own ho h, AdT.own h⟩
theorem wpList_app {w : World} {ops : Array Oper} {rest : List Oper} {o : Oper} {a : Act} {Q : Exit → Act → World → Prop} (hgd : o.guard = none) (s x : Operand) (ho : o.op = .call { callee := .builtin .append, args := #[s, x], argTypes := #[22, 22] })
    (base : Nat) (v : Value) (ys zs : List AD) (sv : Value) (hs : a.eval s = v) (hy : ∀ a ∈ ys, adOk a) (hown : w.ownsRow base 25 17 v ys.length (adsC ys)) (hx : a.eval x = sv) (hz : SrcAt w sv zs) (hn : ys.length + zs.length ≤ 1000000000000) (hbase : base ≤ w.heap.size)
    (h : ∀ v' w', w'.ownsRow base 25 17 v' (ys ++ zs).length (adsC (ys ++ zs)) → w.grownBy w' v.ownBlock → wpList Tryd.prog ops Q rest (a.put o.dst v') w') : wpList Tryd.prog ops Q (o :: rest) a w :=
  wpList_plain hgd fun _ hK => wp_app s x ho base v ys zs sv hs hy hown hx hz hn hbase fun v' w' h2 h3 => hK _ _ (h v' w' h2 h3)

set_option maxRecDepth 100000 in
set_option maxHeartbeats 4000000 in
theorem of11_any (v : Value) (l : List AD) (w : World) (ha : Ads w v l) (hll : l.length ≤ 100000) : Calls Tryd.prog 5 #[v] w fun x w' => ∃ v', x = .returned v' ∧ Below w.heap.size w w' ∧ OwnL w' w.heap.size v' (ofA l) := by
  obtain ⟨p, cap, rfl, h1, h2⟩ := ha.len
  have HRA : Hid (l ≠ [] → ∃ b o, p = some ⟨b, o, none⟩ ∧ b < w.heap.size ∧ AdsAt w b o l) := Lib.hid fun hne => by
    obtain ⟨b, o, cap', e, _, _, h3, h4⟩ := ha.parts hne
    simp only [Value.slice.injEq] at e
    exact ⟨b, o, e.1, h3, h4⟩
  have OA := Lib.hid ha.ok
  obtain ⟨n, hn⟩ : ∃ n, n = l.length := ⟨_, rfl⟩
  have hmx : n ≤ 100000 := by omega
  rw [← hn]
  have HN := Lib.hid hn
  have HNL := Lib.hid hmx
  clear ha hn h1 h2 hll
  go_enter Tryd.func5, Tryd.ntmps5
  go_wp2_with fail
  go_loopw [3, 4] (fun u i wr => ∃ k : Nat, k ≤ n ∧ i = .int .i64 k ∧ Hid (OwnL wr w.heap.size u (ofA (l.take k))) ∧ Hid (Below w.heap.size w wr)) (fun _ i _ => n - (intOf i).toNat)
  case atStart => exact ⟨0, by omega, rfl, Lib.hid (World.ownsRow_lit w #[] 0 (Nat.le_refl _) (by unfold maxLen; omega) (by simp)), Lib.hid ((Below.refl _ _).alloc (Nat.le_refl _) _)⟩
  case round =>
    obtain ⟨k, hk, rfl, HO, HB⟩ := hrel
    by_cases hlt : k < n
    · have g1 : k < l.length := by rw [← HN.out]; exact hlt
      obtain ⟨b, o, rfl, hbl, RA⟩ := HRA.out (fun e => by rw [e] at g1; exact absurd g1 (by simp))
      have r1 := row?_below (RA k g1) hbl HB.out
      have hd : decide ((k : Int) < (n : Int)) = true := by simp; omega
      have hw1 : IntKind.i64.wrap ((k : Int) + 1) = (k : Int) + 1 := by simp only [IntKind.wrap_i64]; omega
      have hk1 : (k : Int) < (n : Int) := by omega
      have HS := Lib.hid (ofA_succ g1)
      have hoc := OA.out _ (List.getElem_mem g1)
      generalize l[k] = c at r1 HS hoc
      have HAD := Lib.hid (add11_any w.heap.size _ (ofA (l.take k)) c _ HB.out.size (ofA_ok (fun x hx => OA.out x (List.mem_of_mem_take hx))) HO.out (Nat.le_trans (ofA_length _) (by rw [List.length_take]; have := HNL.out; omega)) (ofA_good _) hoc)
      clear g1 RA hbl hoc
      go_wp2_with (go_at_call 20; (with_reducible refine (HAD.out).mono ?_); rintro x w2 ⟨v', rfl, hb, hown⟩; have H2 := Lib.hid (bstep HB.out hb); have HO2 := Lib.hid hown; clear hb hown r1)
      go_roundw
      case rel => exact ⟨k + 1, by omega, by go_num, Lib.hid (by rw [HS.out]; exact HO2.out), H2⟩
      case measure => simp [intOf]; omega
    · have hd : ¬ (k : Int) < (n : Int) := by omega
      have HD := Lib.hid (show l.take k = l from List.take_of_length_le (by rw [← HN.out]; omega))
      clear hlt
      go_wp2
      go_ret
      exact ⟨_, rfl, HB.out, by have := HO.out; rw [HD.out] at this; exact this⟩

def pickA (a b : List AD) (i : Bool) : List AD := a.filter (fun x => decide (x ∈ b) == i)
theorem pickA_succ {a b : List AD} {i : Bool} {k : Nat} (h : k < a.length) : pickA (a.take (k + 1)) b i = if (decide (a[k] ∈ b) == i) = true then pickA (a.take k) b i ++ [a[k]] else pickA (a.take k) b i := by
  unfold pickA
  rw [List.take_succ_eq_append_getElem h, List.filter_append]
  by_cases e : (decide (a[k] ∈ b) == i) = true
  · rw [if_pos e]; simp only [List.filter_cons, List.filter_nil, e, if_true]
  · rw [if_neg e]; simp only [List.filter_cons, List.filter_nil, e, if_false, Bool.false_eq_true, List.append_nil]
theorem pickA_length (a b : List AD) (i : Bool) : (pickA a b i).length ≤ a.length := List.length_filter_le _ _
theorem pickA_ok {a b : List AD} {i : Bool} (h : ∀ x ∈ a, adOk x) : ∀ x ∈ pickA a b i, adOk x := fun x hx => h x (List.mem_filter.1 hx).1

set_option maxRecDepth 100000 in
set_option maxHeartbeats 4000000 in
theorem pick11_any (v u : Value) (l m : List AD) (i : Bool) (w : World) (ha : Ads w v l) (hb : Ads w u m) (hll : l.length ≤ 100000) : Calls Tryd.prog 16 #[v, u, .bool i] w fun x w' => ∃ v', x = .returned v' ∧ Below w.heap.size w w' ∧ OwnL w' w.heap.size v' (pickA l m i) := by
  obtain ⟨p, cap, rfl, h1, h2⟩ := ha.len
  have HRA : Hid (l ≠ [] → ∃ b o, p = some ⟨b, o, none⟩ ∧ b < w.heap.size ∧ AdsAt w b o l) := Lib.hid fun hne => by
    obtain ⟨b, o, cap', e, _, _, h3, h4⟩ := ha.parts hne
    simp only [Value.slice.injEq] at e
    exact ⟨b, o, e.1, h3, h4⟩
  have OA := Lib.hid ha.ok
  have HBB := Lib.hid (fun W (h : Below w.heap.size w W) => hb.below h)
  obtain ⟨n, hn⟩ : ∃ n, n = l.length := ⟨_, rfl⟩
  have hmx : n ≤ 100000 := by omega
  rw [← hn]
  have HN := Lib.hid hn
  have HNL := Lib.hid hmx
  clear ha hb hn h1 h2 hll
  go_enter Tryd.func16, Tryd.ntmps16
  go_wp2_with fail
  go_loopw [7, 8] (fun u' i' wr => ∃ k : Nat, k ≤ n ∧ i' = .int .i64 k ∧ Hid (OwnL wr w.heap.size u' (pickA (l.take k) m i)) ∧ Hid (Below w.heap.size w wr)) (fun _ i' _ => n - (intOf i').toNat)
  case atStart => exact ⟨0, by omega, rfl, Lib.hid (World.ownsRow_lit w #[] 0 (Nat.le_refl _) (by unfold maxLen; omega) (by simp)), Lib.hid ((Below.refl _ _).alloc (Nat.le_refl _) _)⟩
  case round =>
    obtain ⟨k, hk, rfl, HO, HB⟩ := hrel
    by_cases hlt : k < n
    · have g1 : k < l.length := by rw [← HN.out]; exact hlt
      obtain ⟨b, o, rfl, hbl, RA⟩ := HRA.out (fun e => by rw [e] at g1; exact absurd g1 (by simp))
      have r1 := row?_below (RA k g1) hbl HB.out
      have hrk := RA k g1
      have HRK : Hid (∀ W, Below w.heap.size w W → row? W b (o + k * 17) 17 = some (adC l[k])) := Lib.hid fun W h => row?_below hrk hbl h
      have hd : decide ((k : Int) < (n : Int)) = true := by simp; omega
      have hw1 : IntKind.i64.wrap ((k : Int) + 1) = (k : Int) + 1 := by simp only [IntKind.wrap_i64]; omega
      have hk1 : (k : Int) < (n : Int) := by omega
      have HS := Lib.hid (pickA_succ (b := m) (i := i) g1)
      have hoc := OA.out _ (List.getElem_mem g1)
      generalize l[k] = c at r1 HS hoc HRK hrk
      have hocc := Lib.hid hoc
      have HHA := Lib.hid (has11_any u m c _ (HBB.out _ HB.out) hoc)
      have hlit := adsLit_run c hoc
      clear g1 RA hbl hoc hrk
      obtain ⟨e, he⟩ : ∃ e, e = decide (c ∈ m) := ⟨_, rfl⟩
      rw [← he] at HS HHA
      clear he
      cases hei : (e == i) with
      | true =>
        rw [hei] at HS
        go_wp2_with (first
          | (go_at_call 11; (with_reducible refine (HHA.out).mono ?_); rintro x w2 ⟨rfl, hb⟩; have H2 := Lib.hid (bstep HB.out hb); have HO2 := Lib.hid (OwnL.below HO.out hb); clear hb r1; have r1 := HRK.out _ H2.out)
          | (at_builtin; refine wpList_app rfl _ _ rfl w.heap.size _ (pickA (l.take k) m i) [c] _ rfl (pickA_ok (fun x hx => OA.out x (List.mem_of_mem_take hx))) (OwnL.below HO2.out (bbS _ _)) rfl (src_one (ObjAt.made _ _ _) hocc.out) (by have := pickA_length (l.take k) m i; rw [List.length_take] at this; have := HNL.out; simp only [List.length_cons, List.length_nil]; omega) (Nat.le_trans H2.out.size (by simp)) ?_; intro v' w3 hown' hgrow'; have HO3 := Lib.hid hown'; have H3 := Lib.hid (bgrown (bstep H2.out (bbS _ _)) hgrow' (fun q hq => (own_geS HO2.out q hq).1)); clear hown' hgrow'))
        go_roundw
        case rel => exact ⟨k + 1, by omega, by go_num, Lib.hid (by rw [HS.out, if_pos trivial]; exact HO3.out), H3⟩
        case measure => simp [intOf]; omega
      | false =>
        rw [hei] at HS
        go_wp2_with (go_at_call 11; (with_reducible refine (HHA.out).mono ?_); rintro x w2 ⟨rfl, hb⟩; have H2 := Lib.hid (bstep HB.out hb); have HO2 := Lib.hid (OwnL.below HO.out hb); clear hb r1)
        go_roundw
        case rel => exact ⟨k + 1, by omega, by go_num, Lib.hid (by rw [HS.out]; simpa using HO2.out), H2⟩
        case measure => simp [intOf]; omega
    · have hd : ¬ (k : Int) < (n : Int) := by omega
      have HD := Lib.hid (show l.take k = l from List.take_of_length_le (by rw [← HN.out]; omega))
      clear hlt
      go_wp2
      go_ret
      exact ⟨_, rfl, HB.out, by have := HO.out; rw [HD.out] at this; exact this⟩

theorem src_of {w : World} {v : Value} {l : List AD} (ha : Ads w v l) (hp : ∀ n c, v = .slice none n c → c = 0) : SrcAt w v l := by
  refine ⟨ha.ok, ?_⟩
  obtain ⟨p, cap, e, h2, h3⟩ := ha.len
  by_cases hl : l = []
  · subst hl
    cases p with
    | none => have := hp _ _ e; subst this; exact Or.inl ⟨e, rfl⟩
    | some a => exact Or.inr ⟨a, cap, e, fun j u hu => by simp [adsC] at hu⟩
  · obtain ⟨b, o, c, e1, _, _, _, hA⟩ := ha.parts hl
    exact Or.inr ⟨⟨b, o, none⟩, c, e1, fun j u hu => by rw [add_lit]; exact ads_cells ha.ok hA j u hu⟩
def orA (a b : List AD) : List AD := ofA (a ++ b)

set_option maxRecDepth 100000 in
set_option maxHeartbeats 4000000 in
theorem or11_any (v u : Value) (l m : List AD) (w : World) (ha : Ads w v l) (hb : Ads w u m) (hpa : ∀ n c, v = .slice none n c → c = 0) (hpb : ∀ n c, u = .slice none n c → c = 0) (h1 : l.length ≤ 50000) (h2 : m.length ≤ 50000) : Calls Tryd.prog 17 #[v, u] w fun x w' => ∃ v', x = .returned v' ∧ Below w.heap.size w w' ∧ OwnL w' w.heap.size v' (orA l m) := by
  have HA := Lib.hid ha
  have HB := Lib.hid hb
  have HPA := Lib.hid hpa
  have HPB := Lib.hid hpb
  have HL1 := Lib.hid h1
  have HL2 := Lib.hid h2
  have HOK : Hid (∀ x ∈ l ++ m, adOk x) := Lib.hid fun x hx => (List.mem_append.1 hx).elim (fun h => ha.ok x h) (fun h => hb.ok x h)
  have HO0 := Lib.hid (show OwnL (w.alloc (.cells #[] 25)) w.heap.size (.slice (some ⟨w.heap.size, 0, none⟩) 0 0) [] from World.ownsRow_lit w #[] 0 (Nat.le_refl _) (by unfold maxLen; omega) (by simp))
  have HSA := Lib.hid (src_of (ha.below (bbS w (.cells #[] 25))) hpa)
  clear ha hb hpa hpb h1 h2
  go_enter Tryd.func17, Tryd.ntmps17
  go_wp2_with (first
    | (at_builtin; refine wpList_app rfl _ _ rfl w.heap.size _ [] l _ rfl (fun x hx => by cases hx) HO0.out rfl HSA.out (by have := HL1.out; simp only [List.length_nil]; omega) (by simp) ?_; intro v' w2 hown' hgrow'; have H2 := Lib.hid (bgrown (bbS w _) hgrow' (fun q hq => (own_geS HO0.out q hq).1)); have HO2 := Lib.hid (show OwnL w2 w.heap.size v' l from hown'); clear hown' hgrow')
    | (at_builtin; refine wpList_app rfl _ _ rfl w.heap.size _ l m _ rfl HA.out.ok HO2.out rfl (src_of (HB.out.below H2.out) HPB.out) (by have := HL1.out; have := HL2.out; omega) H2.out.size ?_; intro v2' w3 hown' hgrow'; have H3 := Lib.hid (bgrown H2.out hgrow' (fun q hq => (own_geS HO2.out q hq).1)); have HO3 := Lib.hid (show OwnL w3 w.heap.size v2' (l ++ m) from hown'); have HOF := Lib.hid (of11_any v2' (l ++ m) w3 (OwnL.ads HO3.out HOK.out).1 (by rw [List.length_append]; have := HL1.out; have := HL2.out; omega)); clear hown' hgrow')
    | (go_at_call 5; (with_reducible refine (HOF.out).mono ?_); rintro x w4 ⟨v4, rfl, hb, hown⟩; have H4 := Lib.hid (bstep H3.out hb); have HO4 := Lib.hid (own_mono hown H3.out.size); clear hb hown))
  go_ret
  exact ⟨_, rfl, H4.out, HO4.out⟩

end Go.Proofs.YtalnfjnfcloonaaDoor
