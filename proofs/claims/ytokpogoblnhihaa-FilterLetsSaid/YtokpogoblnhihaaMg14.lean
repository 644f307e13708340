/-
  Texts joined: SrC, RwF.
-/
import Derived.Test.YtokpogoblnhihaaSrB
import Derived.Maps.AppendAt
/-
  The contracts of the document's Of, Pick and Or of layer 11.
-/
namespace Go.Proofs.Ytokpogoblnhihaa
open Go.RowKit
set_option linter.unusedVariables false
set_option linter.unusedSimpArgs false
attribute [local go_sem ↓] ld_addr adsLit_eq
attribute [local go_sem] ldr_addr row?_drewN_eq row?_drew_eq


def ofA (l : List AD) : List AD := ofS ltA goodB l
theorem ofA_succ {l : List AD} {k : Nat} (h : k < l.length) : ofA (l.take (k + 1)) = addS ltA goodB (ofA (l.take k)) l[k] := by
  unfold ofA ofS
  rw [List.take_succ_eq_append_getElem h, List.foldl_append]
  rfl
theorem ofA_good (l : List AD) : ∀ x ∈ ofA l, goodB x = true := ofS_good (ltA_ord goodB) l
theorem mem_ofA (l : List AD) (x : AD) : x ∈ ofA l ↔ x ∈ l ∧ goodB x = true := mem_ofS (ltA_ord goodB) l x
theorem addS_length (l : List AD) (a : AD) : (addS ltA goodB l a).length ≤ l.length + 1 := by
  unfold addS
  split
  · omega
  · unfold insS
    have h := congrArg List.length (List.takeWhile_append_dropWhile (p := (ltA · a)) (l := l))
    simp only [List.length_append, List.length_cons] at h ⊢
    omega
theorem foldl_add_length : ∀ (l acc : List AD), (l.foldl (addS ltA goodB) acc).length ≤ acc.length + l.length
  | [], acc => by simp
  | a :: r, acc => by
    have h1 := foldl_add_length r (addS ltA goodB acc a)
    have h2 := addS_length acc a
    simp only [List.foldl_cons, List.length_cons]
    omega
theorem ofA_length (l : List AD) : (ofA l).length ≤ l.length := by
  have := foldl_add_length l []
  unfold ofA ofS
  simpa using this
theorem ofA_ok {l : List AD} (h : ∀ a ∈ l, adOk a) : ∀ a ∈ ofA l, adOk a := fun a ha => h a ((mem_ofA l a).1 ha).1
/-- A set of one's own. -/
def OwnL (w : World) (base : Nat) (v : Value) (l : List AD) : Prop := w.ownsRow base 37 17 v l.length (adsC l)
theorem OwnL.below {w w' : World} {base : Nat} {v : Value} {l : List AD} (h : OwnL w base v l) (hb : Below w.heap.size w w') : OwnL w' base v l := own_belowS h hb
theorem OwnL.ads {w : World} {base : Nat} {v : Value} {l : List AD} (h : OwnL w base v l) (ho : ∀ a ∈ l, adOk a) : AdsT w v l := ⟨Ads.own ho h, AdT.own h⟩
theorem wpList_app {w : World} {ops : Array Oper} {rest : List Oper} {o : Oper} {a : Act} {Q : Exit → Act → World → Prop} (hgd : o.guard = none) (s x : Operand) (ho : o.op = .call { callee := .builtin .append, args := #[s, x], argTypes := #[22, 22] })
    (base : Nat) (v : Value) (ys zs : List AD) (sv : Value) (hs : a.eval s = v) (hy : ∀ a ∈ ys, adOk a) (hown : w.ownsRow base 37 17 v ys.length (adsC ys)) (hx : a.eval x = sv) (hz : SrcAt w sv zs) (hn : ys.length + zs.length ≤ 1000000000000) (hbase : base ≤ w.heap.size)
    (h : ∀ v' w', w'.ownsRow base 37 17 v' (ys ++ zs).length (adsC (ys ++ zs)) → w.grownBy w' v.ownBlock → wpList Try.prog ops Q rest (a.put o.dst v') w') : wpList Try.prog ops Q (o :: rest) a w :=
  wpList_plain hgd fun _ hK => wp_app s x ho base v ys zs sv hs hy hown hx hz hn hbase fun v' w' h2 h3 => hK _ _ (h v' w' h2 h3)

set_option maxRecDepth 100000 in
set_option maxHeartbeats 4000000 in
theorem of11_any (v : Value) (l : List AD) (w : World) (ha : Ads w v l) (hll : l.length ≤ 100000) : Calls Try.prog 12 #[v] w fun x w' => ∃ v', x = .returned v' ∧ Below w.heap.size w w' ∧ OwnL w' w.heap.size v' (ofA l) := by
  obtain ⟨p, cap, rfl, h1, h2⟩ := ha.len
  have HRA : Hid (l ≠ [] → ∃ b o, p = some ⟨b, o, none⟩ ∧ b < w.heap.size ∧ AdsAt w b o l) := Lib.hid fun hne => by
    obtain ⟨b, o, cap', e, _, _, h3, h4⟩ := ha.parts hne
    simp only [Value.slice.injEq] at e
    exact ⟨b, o, e.1, h3, h4⟩
  have OA := Lib.hid ha.ok
  obtain ⟨n, hn⟩ : ∃ n, n = l.length := ⟨_, rfl⟩
  have hmx : n ≤ 100000 := by omega
  rw [← hn]
  have HN := Lib.hid hn
  have HNL := Lib.hid hmx
  clear ha hn h1 h2 hll
  go_enter Try.func12, Try.ntmps12
  go_wp2_with fail
  go_loopw [3, 4] (fun u i wr => ∃ k : Nat, k ≤ n ∧ i = .int .i64 k ∧ Hid (OwnL wr w.heap.size u (ofA (l.take k))) ∧ Hid (Below w.heap.size w wr)) (fun _ i _ => n - (intOf i).toNat)
  case atStart => exact ⟨0, by omega, rfl, Lib.hid (World.ownsRow_lit w #[] 0 (Nat.le_refl _) (by unfold maxLen; omega) (by simp)), Lib.hid ((Below.refl _ _).alloc (Nat.le_refl _) _)⟩
  case round =>
    obtain ⟨k, hk, rfl, HO, HB⟩ := hrel
    by_cases hlt : k < n
    · have g1 : k < l.length := by rw [← HN.out]; exact hlt
      obtain ⟨b, o, rfl, hbl, RA⟩ := HRA.out (fun e => by rw [e] at g1; exact absurd g1 (by simp))
      have r1 := row?_below (RA k g1) hbl HB.out
      have hd : decide ((k : Int) < (n : Int)) = true := by simp; omega
      have hw1 : IntKind.i64.wrap ((k : Int) + 1) = (k : Int) + 1 := by simp only [IntKind.wrap_i64]; omega
      have hk1 : (k : Int) < (n : Int) := by omega
      have HS := Lib.hid (ofA_succ g1)
      have hoc := OA.out _ (List.getElem_mem g1)
      generalize l[k] = c at r1 HS hoc
      have HAD := Lib.hid (add11_any w.heap.size _ (ofA (l.take k)) c _ HB.out.size (ofA_ok (fun x hx => OA.out x (List.mem_of_mem_take hx))) HO.out (Nat.le_trans (ofA_length _) (by rw [List.length_take]; have := HNL.out; omega)) (ofA_good _) hoc)
      clear g1 RA hbl hoc
      go_wp2_with (go_at_call 34; (with_reducible refine (HAD.out).mono ?_); rintro x w2 ⟨v', rfl, hb, hown⟩; have H2 := Lib.hid (bstep HB.out hb); have HO2 := Lib.hid hown; clear hb hown r1)
      go_roundw
      case rel => exact ⟨k + 1, by omega, by go_num, Lib.hid (by rw [HS.out]; exact HO2.out), H2⟩
      case measure => simp [intOf]; omega
    · have hd : ¬ (k : Int) < (n : Int) := by omega
      have HD := Lib.hid (show l.take k = l from List.take_of_length_le (by rw [← HN.out]; omega))
      clear hlt
      go_wp2
      go_ret
      exact ⟨_, rfl, HB.out, by have := HO.out; rw [HD.out] at this; exact this⟩

def pickA (a b : List AD) (i : Bool) : List AD := a.filter (fun x => decide (x ∈ b) == i)
theorem pickA_succ {a b : List AD} {i : Bool} {k : Nat} (h : k < a.length) : pickA (a.take (k + 1)) b i = if (decide (a[k] ∈ b) == i) = true then pickA (a.take k) b i ++ [a[k]] else pickA (a.take k) b i := by
  unfold pickA
  rw [List.take_succ_eq_append_getElem h, List.filter_append]
  by_cases e : (decide (a[k] ∈ b) == i) = true
  · rw [if_pos e]; simp only [List.filter_cons, List.filter_nil, e, if_true]
  · rw [if_neg e]; simp only [List.filter_cons, List.filter_nil, e, if_false, Bool.false_eq_true, List.append_nil]
theorem pickA_length (a b : List AD) (i : Bool) : (pickA a b i).length ≤ a.length := List.length_filter_le _ _
theorem pickA_ok {a b : List AD} {i : Bool} (h : ∀ x ∈ a, adOk x) : ∀ x ∈ pickA a b i, adOk x := fun x hx => h x (List.mem_filter.1 hx).1

set_option maxRecDepth 100000 in
set_option maxHeartbeats 4000000 in
theorem pick11_any (v u : Value) (l m : List AD) (i : Bool) (w : World) (ha : Ads w v l) (hb : Ads w u m) (hll : l.length ≤ 100000) : Calls Try.prog 43 #[v, u, .bool i] w fun x w' => ∃ v', x = .returned v' ∧ Below w.heap.size w w' ∧ OwnL w' w.heap.size v' (pickA l m i) := by
  obtain ⟨p, cap, rfl, h1, h2⟩ := ha.len
  have HRA : Hid (l ≠ [] → ∃ b o, p = some ⟨b, o, none⟩ ∧ b < w.heap.size ∧ AdsAt w b o l) := Lib.hid fun hne => by
    obtain ⟨b, o, cap', e, _, _, h3, h4⟩ := ha.parts hne
    simp only [Value.slice.injEq] at e
    exact ⟨b, o, e.1, h3, h4⟩
  have OA := Lib.hid ha.ok
  have HBB := Lib.hid (fun W (h : Below w.heap.size w W) => hb.below h)
  obtain ⟨n, hn⟩ : ∃ n, n = l.length := ⟨_, rfl⟩
  have hmx : n ≤ 100000 := by omega
  rw [← hn]
  have HN := Lib.hid hn
  have HNL := Lib.hid hmx
  clear ha hb hn h1 h2 hll
  go_enter Try.func43, Try.ntmps43
  go_wp2_with fail
  go_loopw [7, 8] (fun u' i' wr => ∃ k : Nat, k ≤ n ∧ i' = .int .i64 k ∧ Hid (OwnL wr w.heap.size u' (pickA (l.take k) m i)) ∧ Hid (Below w.heap.size w wr)) (fun _ i' _ => n - (intOf i').toNat)
  case atStart => exact ⟨0, by omega, rfl, Lib.hid (World.ownsRow_lit w #[] 0 (Nat.le_refl _) (by unfold maxLen; omega) (by simp)), Lib.hid ((Below.refl _ _).alloc (Nat.le_refl _) _)⟩
  case round =>
    obtain ⟨k, hk, rfl, HO, HB⟩ := hrel
    by_cases hlt : k < n
    · have g1 : k < l.length := by rw [← HN.out]; exact hlt
      obtain ⟨b, o, rfl, hbl, RA⟩ := HRA.out (fun e => by rw [e] at g1; exact absurd g1 (by simp))
      have r1 := row?_below (RA k g1) hbl HB.out
      have hrk := RA k g1
      have HRK : Hid (∀ W, Below w.heap.size w W → row? W b (o + k * 17) 17 = some (adC l[k])) := Lib.hid fun W h => row?_below hrk hbl h
      have hd : decide ((k : Int) < (n : Int)) = true := by simp; omega
      have hw1 : IntKind.i64.wrap ((k : Int) + 1) = (k : Int) + 1 := by simp only [IntKind.wrap_i64]; omega
      have hk1 : (k : Int) < (n : Int) := by omega
      have HS := Lib.hid (pickA_succ (b := m) (i := i) g1)
      have hoc := OA.out _ (List.getElem_mem g1)
      generalize l[k] = c at r1 HS hoc HRK hrk
      have hocc := Lib.hid hoc
      have HHA := Lib.hid (has11_any u m c _ (HBB.out _ HB.out) hoc)
      have hlit := adsLit_run c hoc
      clear g1 RA hbl hoc hrk
      obtain ⟨e, he⟩ : ∃ e, e = decide (c ∈ m) := ⟨_, rfl⟩
      rw [← he] at HS HHA
      clear he
      cases hei : (e == i) with
      | true =>
        rw [hei] at HS
        go_wp2_with (first
          | (go_at_call 25; (with_reducible refine (HHA.out).mono ?_); rintro x w2 ⟨rfl, hb⟩; have H2 := Lib.hid (bstep HB.out hb); have HO2 := Lib.hid (OwnL.below HO.out hb); clear hb r1; have r1 := HRK.out _ H2.out)
          | (at_builtin; refine wpList_app rfl _ _ rfl w.heap.size _ (pickA (l.take k) m i) [c] _ rfl (pickA_ok (fun x hx => OA.out x (List.mem_of_mem_take hx))) (OwnL.below HO2.out (bbS _ _)) rfl (src_one (ObjAt.made _ _ _) hocc.out) (by have := pickA_length (l.take k) m i; rw [List.length_take] at this; have := HNL.out; simp only [List.length_cons, List.length_nil]; omega) (Nat.le_trans H2.out.size (by simp)) ?_; intro v' w3 hown' hgrow'; have HO3 := Lib.hid hown'; have H3 := Lib.hid (bgrown (bstep H2.out (bbS _ _)) hgrow' (fun q hq => (own_geS HO2.out q hq).1)); clear hown' hgrow'))
        go_roundw
        case rel => exact ⟨k + 1, by omega, by go_num, Lib.hid (by rw [HS.out, if_pos trivial]; exact HO3.out), H3⟩
        case measure => simp [intOf]; omega
      | false =>
        rw [hei] at HS
        go_wp2_with (go_at_call 25; (with_reducible refine (HHA.out).mono ?_); rintro x w2 ⟨rfl, hb⟩; have H2 := Lib.hid (bstep HB.out hb); have HO2 := Lib.hid (OwnL.below HO.out hb); clear hb r1)
        go_roundw
        case rel => exact ⟨k + 1, by omega, by go_num, Lib.hid (by rw [HS.out]; simpa using HO2.out), H2⟩
        case measure => simp [intOf]; omega
    · have hd : ¬ (k : Int) < (n : Int) := by omega
      have HD := Lib.hid (show l.take k = l from List.take_of_length_le (by rw [← HN.out]; omega))
      clear hlt
      go_wp2
      go_ret
      exact ⟨_, rfl, HB.out, by have := HO.out; rw [HD.out] at this; exact this⟩

theorem src_of {w : World} {v : Value} {l : List AD} (ha : Ads w v l) (hp : ∀ n c, v = .slice none n c → c = 0) : SrcAt w v l := by
  refine ⟨ha.ok, ?_⟩
  obtain ⟨p, cap, e, h2, h3⟩ := ha.len
  by_cases hl : l = []
  · subst hl
    cases p with
    | none => have := hp _ _ e; subst this; exact Or.inl ⟨e, rfl⟩
    | some a => exact Or.inr ⟨a, cap, e, fun j u hu => by simp [adsC] at hu⟩
  · obtain ⟨b, o, c, e1, _, _, _, hA⟩ := ha.parts hl
    exact Or.inr ⟨⟨b, o, none⟩, c, e1, fun j u hu => by rw [add_lit]; exact ads_cells ha.ok hA j u hu⟩
def orA (a b : List AD) : List AD := ofA (a ++ b)

set_option maxRecDepth 100000 in
set_option maxHeartbeats 4000000 in
theorem or11_any (v u : Value) (l m : List AD) (w : World) (ha : Ads w v l) (hb : Ads w u m) (hpa : ∀ n c, v = .slice none n c → c = 0) (hpb : ∀ n c, u = .slice none n c → c = 0) (h1 : l.length ≤ 50000) (h2 : m.length ≤ 50000) : Calls Try.prog 24 #[v, u] w fun x w' => ∃ v', x = .returned v' ∧ Below w.heap.size w w' ∧ OwnL w' w.heap.size v' (orA l m) := by
  have HA := Lib.hid ha
  have HB := Lib.hid hb
  have HPA := Lib.hid hpa
  have HPB := Lib.hid hpb
  have HL1 := Lib.hid h1
  have HL2 := Lib.hid h2
  have HOK : Hid (∀ x ∈ l ++ m, adOk x) := Lib.hid fun x hx => (List.mem_append.1 hx).elim (fun h => ha.ok x h) (fun h => hb.ok x h)
  have HO0 := Lib.hid (show OwnL (w.alloc (.cells #[] 37)) w.heap.size (.slice (some ⟨w.heap.size, 0, none⟩) 0 0) [] from World.ownsRow_lit w #[] 0 (Nat.le_refl _) (by unfold maxLen; omega) (by simp))
  have HSA := Lib.hid (src_of (ha.below (bbS w (.cells #[] 37))) hpa)
  clear ha hb hpa hpb h1 h2
  go_enter Try.func24, Try.ntmps24
  go_wp2_with (first
    | (at_builtin; refine wpList_app rfl _ _ rfl w.heap.size _ [] l _ rfl (fun x hx => by cases hx) HO0.out rfl HSA.out (by have := HL1.out; simp only [List.length_nil]; omega) (by simp) ?_; intro v' w2 hown' hgrow'; have H2 := Lib.hid (bgrown (bbS w _) hgrow' (fun q hq => (own_geS HO0.out q hq).1)); have HO2 := Lib.hid (show OwnL w2 w.heap.size v' l from hown'); clear hown' hgrow')
    | (at_builtin; refine wpList_app rfl _ _ rfl w.heap.size _ l m _ rfl HA.out.ok HO2.out rfl (src_of (HB.out.below H2.out) HPB.out) (by have := HL1.out; have := HL2.out; omega) H2.out.size ?_; intro v2' w3 hown' hgrow'; have H3 := Lib.hid (bgrown H2.out hgrow' (fun q hq => (own_geS HO2.out q hq).1)); have HO3 := Lib.hid (show OwnL w3 w.heap.size v2' (l ++ m) from hown'); have HOF := Lib.hid (of11_any v2' (l ++ m) w3 (OwnL.ads HO3.out HOK.out).1 (by rw [List.length_append]; have := HL1.out; have := HL2.out; omega)); clear hown' hgrow')
    | (go_at_call 12; (with_reducible refine (HOF.out).mono ?_); rintro x w4 ⟨v4, rfl, hb, hown⟩; have H4 := Lib.hid (bstep H3.out hb); have HO4 := Lib.hid (own_mono hown H3.out.size); clear hb hown))
  go_ret
  exact ⟨_, rfl, H4.out, HO4.out⟩

end Go.Proofs.Ytokpogoblnhihaa

/-
  Several rows of addresses that grow side by side, each in memory of its own.
-/
namespace Go.Proofs.Ytokpogoblnhihaa
open Go.RowKit
set_option linter.unusedVariables false
set_option linter.unusedSimpArgs false

def setF {α : Type} (f : Nat → α) (j : Nat) (x : α) : Nat → α := fun k => if k = j then x else f k
theorem setF_same {α : Type} (f : Nat → α) (j : Nat) (x : α) : setF f j x j = x := if_pos rfl
theorem setF_other {α : Type} (f : Nat → α) {j k : Nat} (x : α) (h : k ≠ j) : setF f j x k = f k := if_neg h
theorem OwnL.kept {w w' : World} {base : Nat} {v : Value} {l : List AD} {row : Option Nat} (h : OwnL w base v l) (hg : w.grownBy w' row) (hne : ∀ b, v.ownBlock = some b → some b ≠ row) : OwnL w' base v l := by
  obtain ⟨h1, h2 | ⟨g, cap, cur, rfl, e2, e3, e4⟩⟩ := h
  · exact ⟨h1, .inl h2⟩
  · exact ⟨h1, .inr ⟨g, cap, cur, rfl, e2, (hg.block g (Array.getElem?_eq_some_iff.1 e3).1 (hne g rfl)).trans e3, e4⟩⟩
theorem OwnL.ge {w : World} {base : Nat} {v : Value} {l : List AD} (h : OwnL w base v l) : ∀ k, v.ownBlock = some k → base ≤ k ∧ k < w.heap.size := own_geS h
theorem OwnL.set {w : World} {base : Nat} {v x : Value} {l : List AD} {a : Addr} (h : OwnL w base v l) (hl : a.block < base) : OwnL (w.setCell a x) base v l := by
  obtain ⟨h1, h2 | ⟨g, cap, cur, e1, e2, e3, e4⟩⟩ := h
  · exact ⟨h1, .inl h2⟩
  · exact ⟨h1, .inr ⟨g, cap, cur, e1, e2, (heap_setCell_other w a g x (by omega)).trans e3, e4⟩⟩
theorem OwnL.nil (w : World) (base : Nat) : OwnL w base (.slice none 0 0) [] := ⟨rfl, .inl ⟨rfl, rfl⟩⟩
theorem OwnL.cap {w : World} {base : Nat} {v : Value} {l : List AD} (h : OwnL w base v l) : ∀ n c, v = .slice none n c → c = 0 := by
  intro n c e
  obtain ⟨h1, ⟨h2, h3⟩ | ⟨g', cap', cur, e1, e2⟩⟩ := h
  · rw [h2] at e; cases e; rfl
  · rw [e1] at e; cases e
structure RowsF (W : World) (base : Nat) (J : List Nat) (us : Nat → Value) (ls : Nat → List AD) : Prop where
  own : ∀ j ∈ J, OwnL W base (us j) (ls j) ∧ ∀ a ∈ ls j, adOk a
  apart : ∀ i ∈ J, ∀ j ∈ J, i ≠ j → ∀ b, (us i).ownBlock = some b → (us j).ownBlock ≠ some b
theorem RowsF.below {W W' : World} {base : Nat} {J : List Nat} {us : Nat → Value} {ls : Nat → List AD} (h : RowsF W base J us ls) (hb : Below W.heap.size W W') : RowsF W' base J us ls := ⟨fun j hj => ⟨(h.own j hj).1.below hb, (h.own j hj).2⟩, h.apart⟩
theorem RowsF.set {W : World} {base : Nat} {J : List Nat} {us : Nat → Value} {ls : Nat → List AD} (h : RowsF W base J us ls) {a : Addr} (hl : a.block < base) (x : Value) : RowsF (W.setCell a x) base J us ls := ⟨fun j hj => ⟨(h.own j hj).1.set hl, (h.own j hj).2⟩, h.apart⟩
theorem RowsF.congr {W : World} {base : Nat} {J : List Nat} {us : Nat → Value} {ls ms : Nat → List AD} (h : RowsF W base J us ls) (e : ∀ j ∈ J, ls j = ms j) : RowsF W base J us ms := ⟨fun j hj => by rw [← e j hj]; exact h.own j hj, h.apart⟩
theorem RowsF.ads {W : World} {base : Nat} {J : List Nat} {us : Nat → Value} {ls : Nat → List AD} (h : RowsF W base J us ls) {j : Nat} (hj : j ∈ J) : Ads W (us j) (ls j) := Ads.own (h.own j hj).2 (h.own j hj).1
theorem RowsF.app {W W' : World} {base : Nat} {J : List Nat} {us : Nat → Value} {ls : Nat → List AD} {j : Nat} {v' : Value} {c : AD} (h : RowsF W base J us ls) (hj : j ∈ J) (hg : W.grownBy W' (us j).ownBlock) (ho : OwnL W' base v' (ls j ++ [c])) (hc : adOk c)
    (hat : v'.ownBlock = (us j).ownBlock ∨ v'.ownBlock = some W.heap.size) : RowsF W' base J (setF us j v') (setF ls j (ls j ++ [c])) := by
  have old : ∀ i ∈ J, i ≠ j → ∀ b, (us i).ownBlock = some b → v'.ownBlock ≠ some b := by
    intro i hi hne b hb
    rcases hat with e | e
    · rw [e]; exact fun e2 => h.apart i hi j hj hne b hb e2
    · rw [e]; intro e2
      have := ((h.own i hi).1.ge b hb).2
      cases e2
      omega
  refine ⟨fun i hi => ?_, fun i hi k hk hik b => ?_⟩
  · by_cases e : i = j
    · subst e
      rw [setF_same, setF_same]
      exact ⟨ho, fun a ha => (List.mem_append.1 ha).elim ((h.own i hi).2 a) (fun ha => by rw [List.mem_singleton] at ha; subst ha; exact hc)⟩
    · rw [setF_other _ _ e, setF_other _ _ e]
      exact ⟨(h.own i hi).1.kept hg (fun b hb e2 => h.apart i hi j hj e b hb e2.symm), (h.own i hi).2⟩
  · by_cases e1 : i = j
    · subst e1
      rw [setF_same, setF_other _ _ (Ne.symm hik)]
      intro hb hb2
      exact old k hk (Ne.symm hik) b hb2 hb
    · rw [setF_other _ _ e1]
      by_cases e2 : k = j
      · subst e2
        rw [setF_same]
        exact old i hi e1 b
      · rw [setF_other _ _ e2]
        exact h.apart i hi k hk hik b
theorem wpList_appR {w : World} {ops : Array Oper} {rest : List Oper} {o : Oper} {a : Act} {Q : Exit → Act → World → Prop} (hgd : o.guard = none) (s x : Operand) (ho : o.op = .call { callee := .builtin .append, args := #[s, x], argTypes := #[22, 22] })
    (base : Nat) (J : List Nat) (us : Nat → Value) (ls : Nat → List AD) (j : Nat) (hs : a.eval s = us j) (c : AD) (m : Nat) (hR : RowsF w base J us ls) (hj : j ∈ J) (hx : a.eval x = .slice (some ⟨m, 0, none⟩) 1 1) (hm : ObjAt w m (adC c).toArray 37) (hc : adOk c) (hn : (ls j).length ≤ 1000000) (hbase : base ≤ w.heap.size)
    (h : ∀ v' w', RowsF w' base J (setF us j v') (setF ls j (ls j ++ [c])) → w.grownBy w' (us j).ownBlock → (v'.ownBlock = (us j).ownBlock ∨ v'.ownBlock = some w.heap.size) → wpList Try.prog ops Q rest (a.put o.dst v') w') : wpList Try.prog ops Q (o :: rest) a w := by
  obtain ⟨i0, hi0, hz0, hz1, hz2⟩ := info_parts info_ad
  have hl := adC_length hc
  refine wpList_append_own_at w hgd s x 22 ho base 37 i0 (.agg #[.bool false, .int .u8 0, .int .u8 0, .int .u8 0, .int .u8 0, .int .u8 0, .int .u8 0, .int .u8 0, .int .u8 0, .int .u8 0, .int .u8 0, .int .u8 0, .int .u8 0, .int .u8 0, .int .u8 0, .int .u8 0, .int .u8 0]) 17 17 Try.underlying22 hi0 hz0 hz1 hz2 rfl (by omega) (us j) (ls j).length (adsC (ls j)) hs (hR.own j hj).1 ⟨m, 0, none⟩ 1 1 (adC c) hx (by rw [hl]) ?_ (addrC_one _ _) (by unfold maxLen; omega) (by omega) hbase ?_
  · intro k u hk
    rw [add_lit, hm.cell, List.getElem?_toArray, Nat.zero_add]
    exact hk
  · intro v' w' h1 h2 _ h4
    refine h v' w' (hR.app hj h2 ?_ hc h4) h2 h4
    unfold OwnL
    rw [List.length_append, adsC_append, show adsC [c] = adC c by unfold adsC; simp]
    exact h1
theorem RowsF.shape {W : World} {base j : Nat} {J : List Nat} {us : Nat → Value} {v : Value} {ls : Nat → List AD} (h : RowsF W base J (setF us j v) ls) (hj : j ∈ J) : ∃ p n c, v = .slice p n c := by
  have h1 := (h.own j hj).1
  rw [setF_same] at h1
  obtain ⟨_, ⟨h2, _⟩ | ⟨g, cap, cur, e1, _⟩⟩ := h1
  · exact ⟨_, _, _, h2⟩
  · exact ⟨_, _, _, e1⟩
theorem OwnL.agg {w : World} {base b : Nat} {v : Value} {l : List AD} (h : OwnL w base v l) (hl : b < base) (L : List Value) : OwnL (aggW w b L) base v l := by
  rw [aggW_eq]
  obtain ⟨h1, h2 | ⟨g, cap, cur, e1, e2, e3, e4⟩⟩ := h
  · exact ⟨h1, .inl h2⟩
  · exact ⟨h1, .inr ⟨g, cap, cur, e1, e2, setCells_other (t := 37) (by omega) L 0 e3, e4⟩⟩
theorem RowsF.agg {W : World} {base b : Nat} {J : List Nat} {us : Nat → Value} {ls : Nat → List AD} (h : RowsF W base J us ls) (hl : b < base) (L : List Value) : RowsF (aggW W b L) base J us ls := ⟨fun j hj => ⟨(h.own j hj).1.agg hl L, (h.own j hj).2⟩, h.apart⟩
end Go.Proofs.Ytokpogoblnhihaa

