/-
  The contract of the document's Add of layer 11.
-/
import Derived.Test.YtokpogoblnhihaaMg10
import Derived.Test.YtokpogoblnhihaaCmp
import Derived.Test.YtokpogoblnhihaaPureSet
import Derived.Deep.RegionHeld3
import Derived.Laws.AppendOwnNone
namespace Go.Proofs.Ytokpogoblnhihaa
open Go.RowKit
set_option linter.unusedVariables false
set_option linter.unusedSimpArgs false
attribute [local go_sem ↓] ld_addr adsLit_eq
attribute [local go_sem] ldr_addr row?_drewN_eq row?_drew_eq


def goodB (a : AD) : Bool := goodV a.1 a.2
theorem goodB_tail {a b : AD} (ha : adOk a) (hb : adOk b) (ga : goodB a = true) (gb : goodB b = true) (h : a.1 = b.1) (hf : a.1 = false) : a.2.drop 4 = b.2.drop 4 := by
  have e : ∀ c : AD, adOk c → goodB c = true → c.1 = false → c.2.drop 4 = List.replicate 12 0 := by
    intro c hc gc hv
    unfold goodB at gc
    rw [hv] at gc
    have := goodV_four c.2 hc gc
    rw [← this]
    have hl : (c.2.take 4).length = 4 := by rw [List.length_take]; have : c.2.length = 16 := hc; omega
    unfold readV
    rw [List.drop_append_of_le_length (by omega), List.drop_of_length_le (by omega), hl]
    rfl
  rw [e a ha ga hf, e b hb gb (by rw [← h]; exact hf)]
theorem cmp_lt (a b : AD) : decide (cmpV a.1 b.1 a.2 b.2 < 0) = ltA a b := by
  unfold cmpV ltA
  cases h : a.1 == b.1 with
  | true =>
    rw [if_pos rfl, if_pos rfl]
    rcases cb_three a.2 b.2 with ⟨e, _⟩ | ⟨e, _⟩ | ⟨e, _⟩ <;> rw [e] <;> rfl
  | false =>
    simp only [Bool.false_eq_true, if_false]
    cases ha : a.1 with
    | true =>
      cases hb : b.1 with
      | true => rw [ha, hb] at h; cases h
      | false => rfl
    | false =>
      cases hb : b.1 with
      | true => rfl
      | false => rw [ha, hb] at h; cases h
theorem take_while_of {l : List AD} {k : Nat} {a : AD} (hk : k ≤ l.length) (h1 : ∀ x ∈ l.take k, ltA x a = true) (h2 : ∀ (h : k < l.length), ltA l[k] a = false) : l.takeWhile (ltA · a) = l.take k ∧ l.dropWhile (ltA · a) = l.drop k := by
  induction l generalizing k with
  | nil => simp at hk; subst hk; simp
  | cons b r ih =>
    cases k with
    | zero =>
      have := h2 (by simp)
      simp only [List.getElem_cons_zero] at this
      simp [this]
    | succ k =>
      have hb := h1 b (by simp)
      obtain ⟨e1, e2⟩ := ih (k := k) (by simpa using hk) (fun x hx => h1 x (by simp [hx])) (fun h => by have := h2 (by simpa using h); simpa using this)
      simp [hb, e1, e2]

theorem adsC_length' : ∀ {l : List AD}, (∀ a ∈ l, adOk a) → (adsC l).length = l.length * 17
  | [], _ => rfl
  | a :: r, h => by
    have e : adsC (a :: r) = adC a ++ adsC r := by unfold adsC; simp
    rw [e, List.length_append, adC_length (h a (by simp)), adsC_length' (fun x hx => h x (by simp [hx]))]
    simp only [List.length_cons]; omega
theorem adsC_append (l m : List AD) : adsC (l ++ m) = adsC l ++ adsC m := by unfold adsC; simp
theorem adsC_one (l : List AD) : ∀ u ∈ adsC l, u.oneCell' = true := by
  intro u hu
  unfold adsC at hu
  simp only [List.mem_flatten, List.mem_map] at hu
  obtain ⟨c, ⟨a, _, rfl⟩, hu⟩ := hu
  exact addrC_one _ _ u hu
/-- The cells of addresses that lie in a row. -/
theorem ads_cells {w : World} {b : Nat} : ∀ {l : List AD} {o : Nat}, (∀ a ∈ l, adOk a) → AdsAt w b o l → ∀ j u, (adsC l)[j]? = some u → w.cell? ⟨b, o + j, none⟩ = some u
  | [], _, _, _, j, u, h => by simp [adsC] at h
  | a :: r, o, hok, hA, j, u, h => by
    have e : adsC (a :: r) = adC a ++ adsC r := by unfold adsC; simp
    have l1 := adC_length (hok a (by simp))
    rw [e] at h
    by_cases hj : j < 17
    · rw [List.getElem?_append_left (by omega)] at h
      have hr := hA 0 (by simp)
      simp only [List.getElem_cons_zero, Nat.zero_mul, Nat.add_zero] at hr
      exact (rangeAt_of_row? hr).1 j u h
    · rw [List.getElem?_append_right (by omega), l1] at h
      have := ads_cells (w := w) (b := b) (l := r) (o := o + 17) (fun x hx => hok x (by simp [hx])) (fun i hi => by
        have := hA (i + 1) (by simpa using hi)
        rw [show o + (i + 1) * 17 = o + 17 + i * 17 by omega] at this
        simpa using this) (j - 17) u h
      rw [show o + 17 + (j - 17) = o + j by omega] at this
      exact this
/-- What is appended: nothing, or addresses that lie somewhere. -/
def SrcAt (w : World) (sv : Value) (zs : List AD) : Prop := (∀ a ∈ zs, adOk a) ∧ ((sv = .slice none 0 0 ∧ zs = []) ∨ ∃ ad c, sv = .slice (some ad) zs.length c ∧ ∀ j u, (adsC zs)[j]? = some u → w.cell? (ad.add j) = some u)
theorem wp_app {w : World} {o : Oper} {a : Act} {K : Act → World → Prop} {Q : Exit → Act → World → Prop} (s x : Operand) (ho : o.op = .call { callee := .builtin .append, args := #[s, x], argTypes := #[22, 22] })
    (base : Nat) (v : Value) (ys zs : List AD) (sv : Value) (hs : a.eval s = v) (hy : ∀ a ∈ ys, adOk a) (hown : w.ownsRow base 37 17 v ys.length (adsC ys)) (hx : a.eval x = sv) (hz : SrcAt w sv zs) (hn : ys.length + zs.length ≤ 1000000000000) (hbase : base ≤ w.heap.size)
    (h : ∀ v' w', w'.ownsRow base 37 17 v' (ys ++ zs).length (adsC (ys ++ zs)) → w.grownBy w' v.ownBlock → K (a.put o.dst v') w') : o.wp Try.prog a w K Q := by
  obtain ⟨i0, hi0, hz0, hz1, hz2⟩ := info_parts info_ad
  obtain ⟨ok, hz⟩ := hz
  rcases hz with ⟨rfl, rfl⟩ | ⟨ad, c, rfl, hc⟩
  · have hrun := run_append_owned_none (P := Try.prog) (w := w) base 22 o.type 37 i0 17 Try.underlying22 hi0 v _ _ hown
    unfold Oper.wp
    simp [execOp, ho, resolve, invoke, builtin, hs, hx, hrun, Result.andThen]
    exact h _ _ (by simpa using hown) ⟨rfl, rfl, rfl, Nat.le_refl _, fun _ _ _ => rfl⟩
  · refine wp_append_own w s x 22 ho base 37 i0 (.agg #[.bool false, .int .u8 0, .int .u8 0, .int .u8 0, .int .u8 0, .int .u8 0, .int .u8 0, .int .u8 0, .int .u8 0, .int .u8 0, .int .u8 0, .int .u8 0, .int .u8 0, .int .u8 0, .int .u8 0, .int .u8 0, .int .u8 0]) 17 17 Try.underlying22 hi0 hz0 hz1 hz2 rfl (by decide) v ys.length (adsC ys) hs hown ad zs.length c (adsC zs) hx (adsC_length' ok) hc (adsC_one zs) (by unfold maxLen; omega) (by omega) hbase ?_
    intro v' w' h1 h2 _
    exact h v' w' (by rw [List.length_append, adsC_append]; exact h1) h2
theorem step_ap {ops : Array Oper} {o : Oper} {a : Act} {w : World} {K : Act → World → Prop} {Q : Exit → Act → World → Prop} {E : Prop} (hg : o.guard = none) (h : Oper.wp Try.prog o a w K Q) : if Region.wanted o (yielded ops a.tmps) = true then Oper.wp Try.prog o a w K Q else E := by
  rw [if_pos (by simp [Region.wanted, hg])]; exact h

theorem own_belowS {w w' : World} {base n : Nat} {v : Value} {xs : List Value} {e : TypeId} {z : Nat} (h : w.ownsRow base e z v n xs) (hb : Below w.heap.size w w') : w'.ownsRow base e z v n xs := by
  obtain ⟨h1, h2 | ⟨g, cap, cur, e1, e2, e3, e4⟩⟩ := h
  · exact ⟨h1, .inl h2⟩
  · exact ⟨h1, .inr ⟨g, cap, cur, e1, e2, (hb.block g (Array.getElem?_eq_some_iff.1 e3).1).trans e3, e4⟩⟩
theorem own_mono {w : World} {base base' n : Nat} {v : Value} {xs : List Value} {e : TypeId} {z : Nat} (h : w.ownsRow base' e z v n xs) (hb : base ≤ base') : w.ownsRow base e z v n xs := by
  obtain ⟨h1, h2 | ⟨g, cap, cur, e1, e2, e3⟩⟩ := h
  · exact ⟨h1, .inl h2⟩
  · exact ⟨h1, .inr ⟨g, cap, cur, e1, Nat.le_trans hb e2, e3⟩⟩
theorem own_geS {w : World} {base n : Nat} {v : Value} {xs : List Value} {e : TypeId} {z : Nat} (h : w.ownsRow base e z v n xs) : ∀ k, v.ownBlock = some k → base ≤ k ∧ k < w.heap.size := by
  obtain ⟨h1, h2 | ⟨g, cap, cur, e1, e2, e3, e4⟩⟩ := h
  · intro k hk; rw [h2.1] at hk; cases hk
  · intro k hk; rw [e1] at hk; cases hk; exact ⟨e2, (Array.getElem?_eq_some_iff.1 e3).1⟩
theorem add_lit (b o j : Nat) : (⟨b, o, none⟩ : Addr).add j = ⟨b, o + j, none⟩ := by unfold Addr.add; split <;> simp_all
theorem src_take {W : World} {b o k c : Nat} {l : List AD} (h : AdsAt W b o l) (ok : ∀ a ∈ l, adOk a) (hk : k ≤ l.length) : SrcAt W (.slice (some ⟨b, o, none⟩) k c) (l.take k) := by
  have hl : (l.take k).length = k := by rw [List.length_take]; omega
  refine ⟨fun a ha => ok a (List.mem_of_mem_take ha), Or.inr ⟨⟨b, o, none⟩, c, by rw [hl], fun j u hu => ?_⟩⟩
  rw [add_lit]
  refine ads_cells (fun a ha => ok a (List.mem_of_mem_take ha)) (fun i hi => by
    have := h i (by rw [hl] at hi; omega)
    rw [List.getElem_take]; exact this) j u hu
theorem src_drop {W : World} {b o k n cap c : Nat} {l : List AD} (h : AdsAt W b o l) (ok : ∀ a ∈ l, adOk a) (hn : n = l.length) (hk : k ≤ n) (hc : n ≤ cap) : SrcAt W (.slice (if cap = k then some ⟨b, o, none⟩ else some ⟨b, o + k * 17, none⟩) (n - k) c) (l.drop k) := by
  have hl : (l.drop k).length = n - k := by rw [List.length_drop, hn]
  refine ⟨fun a ha => ok a (List.mem_of_mem_drop ha), Or.inr ?_⟩
  by_cases e : cap = k
  · rw [if_pos e]
    have h0 : l.drop k = [] := List.drop_of_length_le (by omega)
    exact ⟨⟨b, o, none⟩, c, by rw [hl], fun j u hu => by rw [h0] at hu; simp [adsC] at hu⟩
  · rw [if_neg e]
    refine ⟨⟨b, o + k * 17, none⟩, c, by rw [hl], fun j u hu => ?_⟩
    rw [add_lit]
    refine ads_cells (fun a ha => ok a (List.mem_of_mem_drop ha)) (fun i hi => by
      have := h (k + i) (by rw [hl] at hi; omega)
      rw [List.getElem_drop]
      rw [show o + k * 17 + i * 17 = o + (k + i) * 17 by omega]
      exact this) j u hu
theorem own_at {w : World} {base cap : Nat} {p : Option Addr} {l : List AD} (hok : ∀ a ∈ l, adOk a) (h : w.ownsRow base 37 17 (.slice p l.length cap) l.length (adsC l)) : (p = none ∧ cap = 0 ∧ l = []) ∨ ∃ g, p = some ⟨g, 0, none⟩ ∧ g < w.heap.size ∧ AdsAt w g 0 l := by
  have ha := Ads.own hok h
  obtain ⟨h1, ⟨h2, h3⟩ | ⟨g, c, cur, e1, e2, e3, e4⟩⟩ := h
  · simp only [Value.slice.injEq] at h2
    exact Or.inl ⟨h2.1, h2.2.2, List.eq_nil_of_length_eq_zero h2.2.1⟩
  · simp only [Value.slice.injEq] at e1
    refine Or.inr ⟨g, e1.1, (Array.getElem?_eq_some_iff.1 e3).1, ?_⟩
    by_cases hl : l = []
    · subst hl; intro i hi; simp at hi
    · obtain ⟨b, o, c', e, _, _, _, hA⟩ := ha.parts hl
      simp only [Value.slice.injEq] at e
      rw [e1.1] at e
      obtain ⟨e, _, _⟩ := e
      cases e
      exact hA
theorem bbS (w : World) (o : Obj) : Below w.heap.size w (w.alloc o) := (Below.refl _ _).alloc (Nat.le_refl _) o
theorem src_one {W : World} {m : Nat} {a : AD} (h : ObjAt W m (adC a).toArray 37) (ho : adOk a) : SrcAt W (.slice (some ⟨m, 0, none⟩) 1 1) [a] := by
  refine ⟨fun x hx => by rw [List.mem_singleton] at hx; rw [hx]; exact ho, Or.inr ⟨⟨m, 0, none⟩, 1, rfl, fun j u hu => ?_⟩⟩
  have e : adsC [a] = adC a := by unfold adsC; simp
  rw [e] at hu
  rw [add_lit, h.cell, List.getElem?_toArray, Nat.zero_add]
  exact hu

set_option maxRecDepth 100000 in
set_option maxHeartbeats 4000000 in
theorem add11_any (base : Nat) (v : Value) (l : List AD) (a : AD) (w : World) (hbs : base ≤ w.heap.size) (hok : ∀ a ∈ l, adOk a) (hown : w.ownsRow base 37 17 v l.length (adsC l)) (hll : l.length ≤ 1000000) (hga : ∀ x ∈ l, goodB x = true) (ho : adOk a) : Calls Try.prog 34 #[v, .agg (adC a).toArray] w fun x w' => ∃ v', x = .returned v' ∧ Below w.heap.size w w' ∧ w'.ownsRow base 37 17 v' (addS ltA goodB l a).length (adsC (addS ltA goodB l a)) := by
  have ha : AdsT w v l := ⟨Ads.own hok hown, AdT.own hown⟩
  have hp : ∀ n cap, v = .slice none n cap → cap = 0 := by
    intro n cap e
    obtain ⟨_, h2 | ⟨g, c, cur, e1, _⟩⟩ := hown
    · rw [h2.1] at e; cases e; rfl
    · rw [e1] at e; cases e
  have HOWN := Lib.hid hown
  have HBS := Lib.hid hbs
  have HLL := Lib.hid hll
  obtain ⟨p, cap, rfl, h1, h2⟩ := ha.1.len
  have H0 := Lib.hid (ObjAt.made w (adC a).toArray 37)
  have HB := Lib.hid ((Below.refl w.heap.size w).alloc (Nat.le_refl _) (.cells (adC a).toArray 37))
  have HRO : Hid (∀ W, ObjAt W w.heap.size (adC a).toArray 37 → row? W w.heap.size 0 17 = some (adC a)) := Lib.hid fun W h => obj_row (A := []) (M := adC a) (C := []) (by simpa using h) rfl (adC_length ho)
  have HO := Lib.hid ho
  have HH := Lib.hid (fun W (h : Below w.heap.size w W) => has11_any (.slice p l.length cap) l a W (ha.1.below h) ho)
  have HG : Hid (∀ W, Calls Try.prog 50 #[.agg (adC a).toArray] W fun x w' => x = .returned (.bool (goodB a)) ∧ Below W.heap.size W w') := Lib.hid fun W => rgood_any a.1 a.2 ho W
  have HAT := Lib.hid ha
  have HP := Lib.hid (fun n' e => hp n' cap e)
  clear hp hown hbs hll hok
  go_enter Try.func34, Try.ntmps34
  go_upto_region 1 with (fail)
  generalize w.alloc _ = W at H0 HB ⊢
  have r0 := HRO.out _ H0.out
  cases hh : decide (a ∈ l) with
  | true =>
    rw [hh] at HH
    have HD := Lib.hid (show addS ltA goodB l a = l by unfold addS; rw [if_pos (by simp [of_decide_eq_true hh])])
    clear hh
    go_wp2_with (go_at_call 25; (with_reducible refine (HH.out _ HB.out).mono ?_); rintro x w1 ⟨rfl, hb⟩; replace HB := Lib.hid (bstep HB.out hb); clear hb)
    go_ret
    exact ⟨_, rfl, HB.out, by rw [HD.out]; exact own_belowS HOWN.out HB.out⟩
  | false =>
    rw [hh] at HH
    have HNH := Lib.hid (of_decide_eq_false hh)
    clear hh
    cases hg : goodB a with
    | false =>
      rw [hg] at HG
      have HD := Lib.hid (show addS ltA goodB l a = l by unfold addS; rw [if_pos (by simp [hg])])
      clear hg
      go_wp2_with (first
        | (go_at_call 25; (with_reducible refine (HH.out _ HB.out).mono ?_); rintro x w1 ⟨rfl, hb⟩; replace H0 := Lib.hid (H0.out.below hb H0.out.lt); replace HB := Lib.hid (bstep HB.out hb); clear hb r0; have r0 := HRO.out _ H0.out)
        | (go_at_call 50; (with_reducible refine (HG.out _).mono ?_); rintro x w2 ⟨rfl, hb⟩; replace HB := Lib.hid (bstep HB.out hb); clear hb))
      go_ret
      exact ⟨_, rfl, HB.out, by rw [HD.out]; exact own_belowS HOWN.out HB.out⟩
    | true =>
      rw [hg] at HG
      have HGA := Lib.hid hg
      clear hg
      go_upto_region 3 with (first
        | (go_at_call 25; (with_reducible refine (HH.out _ HB.out).mono ?_); rintro x w1 ⟨rfl, hb⟩; replace H0 := Lib.hid (H0.out.below hb H0.out.lt); replace HB := Lib.hid (bstep HB.out hb); clear hb r0; have r0 := HRO.out _ H0.out)
        | (go_at_call 50; (with_reducible refine (HG.out _).mono ?_); rintro x w2 ⟨rfl, hb⟩; replace H0 := Lib.hid (H0.out.below hb H0.out.lt); replace HB := Lib.hid (bstep HB.out hb); clear hb r0))
      have HK := Lib.hid (show ∀ W, Below w.heap.size w W → AdsT W (.slice p l.length cap) l from fun W h => HAT.out.below h)
      have HRA : Hid (l ≠ [] → ∃ b o, p = some ⟨b, o, none⟩ ∧ b < w.heap.size ∧ AdsAt w b o l) := Lib.hid fun hne => by
        obtain ⟨b, o, cap', e, _, _, h3, h4⟩ := HAT.out.1.parts hne
        simp only [Value.slice.injEq] at e
        exact ⟨b, o, e.1, h3, h4⟩
      have OA := Lib.hid HAT.out.1.ok
      have HGL := Lib.hid hga
      obtain ⟨n, hn⟩ : ∃ n, n = l.length := ⟨_, rfl⟩
      have hmx : n ≤ maxLen := by omega
      unfold maxLen at hmx
      have HN := Lib.hid hn
      have HCAP : Hid (n ≤ cap ∧ cap ≤ maxLen) := Lib.hid ⟨by omega, h2⟩
      rw [← hn]
      clear hn h1 h2 ha hga ho HH HG
      go_wp2_with fail
      go_loopw [5] (fun i wr => ∃ k : Nat, k ≤ n ∧ i = .int .i64 k ∧ Hid (∀ x ∈ l.take k, ltA x a = true) ∧ Hid (ObjAt wr w.heap.size (adC a).toArray 37) ∧ Hid (Below w.heap.size w wr)) (fun i _ => n - (intOf i).toNat)
      case atStart => exact ⟨0, by omega, rfl, Lib.hid (by simp), H0, HB⟩
      case round =>
        obtain ⟨k, hk, rfl, HT, HW, HBW⟩ := hrel
        have hcase : (∃ g1 : k < l.length, ltA l[k] a = true) ∨ (∃ g1 : k < l.length, ltA l[k] a = false) ∨ ¬ k < l.length := by
          by_cases g1 : k < l.length
          · cases h : ltA l[k] a with
            | true => exact Or.inl ⟨g1, h⟩
            | false => exact Or.inr (Or.inl ⟨g1, h⟩)
          · exact Or.inr (Or.inr g1)
        rcases hcase with ⟨g1, hlt⟩ | ⟨g1, hlt⟩ | g1
        case' inl =>
          obtain ⟨b, o, rfl, hbl, RA⟩ := HRA.out (fun e => by rw [e] at g1; exact absurd g1 (by simp))
          have hk1 : (k : Int) < (n : Int) := by have := HN.out; omega
          have hd : decide ((k : Int) < (n : Int)) = true := decide_eq_true hk1
          have hrk := RA k g1
          have HMT := Lib.hid (List.take_succ_eq_append_getElem g1)
          have HKL := Lib.hid (show ∀ h : k < l.length, ltA l[k] a = true from fun _ => hlt)
          have hoc := OA.out _ (List.getElem_mem g1)
          have hgc := HGL.out _ (List.getElem_mem g1)
          generalize l[k] = c at hrk HMT hoc hgc hlt
          have HC : Hid (∀ W, Calls Try.prog 51 #[.agg (adC c).toArray, .agg (adC a).toArray] W fun x w' => x = .returned (.int .i64 (cmpV c.1 a.1 c.2 a.2)) ∧ Below W.heap.size W w') := Lib.hid fun W => rcmp_any' c.1 a.1 c.2 a.2 hoc HO.out (fun e hf => goodB_tail hoc HO.out hgc HGA.out e hf) W
          have hcl := cmp_lt c a
          rw [hlt] at hcl
          generalize cmpV c.1 a.1 c.2 a.2 = cv at HC hcl
          have HLT := Lib.hid hlt
          have HSK : Hid (∀ W W', (row? W b (o + k * 17) 17 = some (adC c) ∧ row? W w.heap.size 0 17 = some (adC a) ∧ ObjAt W w.heap.size (adC a).toArray 37 ∧ Below w.heap.size w W) → Below W.heap.size W W' → (row? W' b (o + k * 17) 17 = some (adC c) ∧ row? W' w.heap.size 0 17 = some (adC a) ∧ ObjAt W' w.heap.size (adC a).toArray 37 ∧ Below w.heap.size w W')) := Lib.hid fun W W' h hb => ⟨row?_below hrk hbl (bstep h.2.2.2 hb), HRO.out _ (h.2.2.1.below hb h.2.2.1.lt), h.2.2.1.below hb h.2.2.1.lt, bstep h.2.2.2 hb⟩
          have HS0 : Hid (row? wr b (o + k * 17) 17 = some (adC c) ∧ row? wr w.heap.size 0 17 = some (adC a) ∧ ObjAt wr w.heap.size (adC a).toArray 37 ∧ Below w.heap.size w wr) := Lib.hid ⟨row?_below hrk hbl HBW.out, HRO.out _ HW.out, HW.out, HBW.out⟩
          have HS2 : Hid (row? wr.drew b (o + k * 17) 17 = some (adC c) ∧ row? wr.drew w.heap.size 0 17 = some (adC a) ∧ ObjAt wr.drew w.heap.size (adC a).toArray 37 ∧ Below w.heap.size w wr.drew) := Lib.hid ⟨HS0.out.1, HS0.out.2.1, HS0.out.2.2.1, bdrewN HS0.out.2.2.2 1⟩
          clear hlt RA hbl hrk hoc hgc
          go_upto_region 4 with (fail)
          refine wp_region_held_drew (S := (fun W => row? W b (o + k * 17) 17 = some (adC c) ∧ row? W w.heap.size 0 17 = some (adC a) ∧ ObjAt W w.heap.size (adC a).toArray 37 ∧ Below w.heap.size w W)) (by kernel_rfl) (HS2.out) (fun hHeld => ?_)
          generalize World.drew wr = wa at HS2 hHeld ⊢
          refine wpAnyH_take (i := 0) (oi := { dst := some 15, op := _, type := _, pos := _, after := _, guard := _ }) (v := ?v101) rfl (by kernel_rfl) (by kernel_rfl) (by kernel_rfl) (fun _ _ _ h => h) (Or.inl ⟨by rfl, ?y101⟩) (by assumption) ?r101
          case y101 => (intro w hSw; obtain ⟨s1, s2, s3, s4⟩ := hSw; go_simp; try with_reducible rfl)
          try simp only [Act.put, List.setIfInBounds_toArray, List.set_cons_zero, List.set_cons_succ]
          refine wpAnyH_take (i := 1) (oi := { dst := some 16, op := _, type := _, pos := _, after := _, guard := _ }) (v := ?v102) rfl (by kernel_rfl) (by kernel_rfl) (by kernel_rfl) (fun _ _ _ h => h) (Or.inl ⟨by rfl, ?y102⟩) (by assumption) ?r102
          case y102 => (intro w hSw; obtain ⟨s1, s2, s3, s4⟩ := hSw; go_simp; try with_reducible rfl)
          try simp only [Act.put, List.setIfInBounds_toArray, List.set_cons_zero, List.set_cons_succ]
          refine wpAnyH_take (i := 2) (oi := { dst := some 17, op := _, type := _, pos := _, after := _, guard := _ }) (v := ?v103) rfl (by kernel_rfl) (by kernel_rfl) (by kernel_rfl) (fun _ _ _ h => h) (Or.inl ⟨by rfl, ?y103⟩) (by assumption) ?r103
          case y103 => (intro w hSw; obtain ⟨s1, s2, s3, s4⟩ := hSw; go_simp; try with_reducible rfl)
          try simp only [Act.put, List.setIfInBounds_toArray, List.set_cons_zero, List.set_cons_succ]
          refine wpAnyH_take (i := 3) (oi := { dst := some 18, op := _, type := _, pos := _, after := _, guard := _ }) (v := ?v104) rfl (by kernel_rfl) (by kernel_rfl) (by kernel_rfl) (fun _ _ _ h => h) (Or.inl ⟨by rfl, ?y104⟩) (by assumption) ?r104
          case y104 => (intro w hSw; obtain ⟨s1, s2, s3, s4⟩ := hSw; go_simp; try with_reducible rfl)
          try simp only [Act.put, List.setIfInBounds_toArray, List.set_cons_zero, List.set_cons_succ]
          refine wpAnyH_take (i := 4) (oi := { dst := some 19, op := _, type := _, pos := _, after := _, guard := _ }) (v := ?v105) rfl (by kernel_rfl) (by kernel_rfl) (by kernel_rfl) (fun _ _ _ h => h) (Or.inl ⟨by rfl, ?y105⟩) (by assumption) ?r105
          case y105 => (intro w hSw; obtain ⟨s1, s2, s3, s4⟩ := hSw; go_simp; try with_reducible rfl)
          try simp only [Act.put, List.setIfInBounds_toArray, List.set_cons_zero, List.set_cons_succ]
          refine wpAnyH_take (i := 5) (oi := { dst := some 20, op := _, type := _, pos := _, after := _, guard := _ }) (v := ?v106) rfl (by kernel_rfl) (by kernel_rfl) (by kernel_rfl) (fun _ _ _ h => h) (Or.inl ⟨by rfl, ?y106⟩) (by assumption) ?r106
          case y106 => (intro w hSw; obtain ⟨s1, s2, s3, s4⟩ := hSw; go_simp; try with_reducible rfl)
          try simp only [Act.put, List.setIfInBounds_toArray, List.set_cons_zero, List.set_cons_succ]
          refine wpAnyH_take (i := 6) (oi := { dst := some 21, op := _, type := _, pos := _, after := _, guard := _ }) (v := ?v107) rfl (by kernel_rfl) (by kernel_rfl) (by kernel_rfl) (fun _ _ _ h => h) (Or.inl ⟨by rfl, ?y107⟩) (by assumption) ?r107
          case y107 => (intro w hSw; obtain ⟨s1, s2, s3, s4⟩ := hSw; go_simp; try with_reducible rfl)
          try simp only [Act.put, List.setIfInBounds_toArray, List.set_cons_zero, List.set_cons_succ]
          refine wpAnyH_take (i := 7) (oi := { dst := some 22, op := _, type := _, pos := _, after := _, guard := _ }) (v := ?v108) rfl (by kernel_rfl) (by kernel_rfl) (by kernel_rfl) (fun _ _ _ h => h) (Or.inl ⟨by rfl, ?y108⟩) (by assumption) ?r108
          case y108 => (intro w hSw; obtain ⟨s1, s2, s3, s4⟩ := hSw; go_simp; try with_reducible rfl)
          try simp only [Act.put, List.setIfInBounds_toArray, List.set_cons_zero, List.set_cons_succ]
          refine wpAnyH_take (i := 8) (oi := { dst := some 23, op := _, type := _, pos := _, after := _, guard := _ }) (v := ?v109) rfl (by kernel_rfl) (by kernel_rfl) (by kernel_rfl) (fun _ _ _ h => h) (Or.inl ⟨by rfl, ?y109⟩) (by assumption) ?r109
          case y109 => (intro w hSw; obtain ⟨s1, s2, s3, s4⟩ := hSw; go_simp; try with_reducible rfl)
          try simp only [Act.put, List.setIfInBounds_toArray, List.set_cons_zero, List.set_cons_succ]
          refine wpAnyH_take (i := 9) (oi := { dst := some 24, op := _, type := _, pos := _, after := _, guard := _ }) (v := ?v110) rfl (by kernel_rfl) (by kernel_rfl) (by kernel_rfl) (fun _ _ _ h => h) (Or.inl ⟨by rfl, ?y110⟩) (by assumption) ?r110
          case y110 => (intro w hSw; obtain ⟨s1, s2, s3, s4⟩ := hSw; go_simp; try with_reducible rfl)
          try simp only [Act.put, List.setIfInBounds_toArray, List.set_cons_zero, List.set_cons_succ]
          refine wpAnyH_ready (rs := [10]) (by kernel_rfl) (by simp) (AllReadyH.cons (o := { dst := some 25, op := _, type := _, pos := _, after := _, guard := _ }) rfl (fun K hK => ?_) AllReadyH.nil)
          go_simp
          (go_at_call 51; (with_reducible refine (HC.out _).mono ?_); rintro x wn ⟨rfl, hb⟩; have HS1 := Lib.hid (HSK.out _ _ HS2.out hb); clear hb)
          try go_wp2_with fail
          refine hK.out _ _ (HS1.out) (fun hHeld => ?_)
          clear hK K
          try simp only [Act.put, List.setIfInBounds_toArray, List.set_cons_zero, List.set_cons_succ]
          refine wpAnyH_take (i := 11) (oi := { dst := some 26, op := _, type := _, pos := _, after := _, guard := _ }) (v := ?v111) rfl (by kernel_rfl) (by kernel_rfl) (by kernel_rfl) (fun _ _ _ h => h) (Or.inl ⟨by rfl, ?y111⟩) (by assumption) ?r111
          case y111 => (intro w hSw; obtain ⟨s1, s2, s3, s4⟩ := hSw; go_simp; try with_reducible rfl)
          try simp only [Act.put, List.setIfInBounds_toArray, List.set_cons_zero, List.set_cons_succ]
          refine wpAnyH_take (i := 12) (oi := { dst := some 27, op := _, type := _, pos := _, after := _, guard := _ }) (v := ?v112) rfl (by kernel_rfl) (by kernel_rfl) (by kernel_rfl) (fun _ _ _ h => h) (Or.inl ⟨by rfl, ?y112⟩) (by assumption) ?r112
          case y112 => (intro w hSw; obtain ⟨s1, s2, s3, s4⟩ := hSw; go_simp; try with_reducible rfl)
          try simp only [Act.put, List.setIfInBounds_toArray, List.set_cons_zero, List.set_cons_succ]
          refine wpAnyH_done (by kernel_rfl) ?_ _
        case' inr.inl =>
          obtain ⟨b, o, rfl, hbl, RA⟩ := HRA.out (fun e => by rw [e] at g1; exact absurd g1 (by simp))
          have hk1 : (k : Int) < (n : Int) := by have := HN.out; omega
          have hd : decide ((k : Int) < (n : Int)) = true := decide_eq_true hk1
          have hrk := RA k g1
          have HMT := Lib.hid (List.take_succ_eq_append_getElem g1)
          have HKL := Lib.hid (show ∀ h : k < l.length, ltA l[k] a = false from fun _ => hlt)
          have hoc := OA.out _ (List.getElem_mem g1)
          have hgc := HGL.out _ (List.getElem_mem g1)
          generalize l[k] = c at hrk HMT hoc hgc hlt
          have HC : Hid (∀ W, Calls Try.prog 51 #[.agg (adC c).toArray, .agg (adC a).toArray] W fun x w' => x = .returned (.int .i64 (cmpV c.1 a.1 c.2 a.2)) ∧ Below W.heap.size W w') := Lib.hid fun W => rcmp_any' c.1 a.1 c.2 a.2 hoc HO.out (fun e hf => goodB_tail hoc HO.out hgc HGA.out e hf) W
          have hcl := cmp_lt c a
          rw [hlt] at hcl
          generalize cmpV c.1 a.1 c.2 a.2 = cv at HC hcl
          have HLT := Lib.hid hlt
          have HSK : Hid (∀ W W', (row? W b (o + k * 17) 17 = some (adC c) ∧ row? W w.heap.size 0 17 = some (adC a) ∧ ObjAt W w.heap.size (adC a).toArray 37 ∧ Below w.heap.size w W) → Below W.heap.size W W' → (row? W' b (o + k * 17) 17 = some (adC c) ∧ row? W' w.heap.size 0 17 = some (adC a) ∧ ObjAt W' w.heap.size (adC a).toArray 37 ∧ Below w.heap.size w W')) := Lib.hid fun W W' h hb => ⟨row?_below hrk hbl (bstep h.2.2.2 hb), HRO.out _ (h.2.2.1.below hb h.2.2.1.lt), h.2.2.1.below hb h.2.2.1.lt, bstep h.2.2.2 hb⟩
          have HS0 : Hid (row? wr b (o + k * 17) 17 = some (adC c) ∧ row? wr w.heap.size 0 17 = some (adC a) ∧ ObjAt wr w.heap.size (adC a).toArray 37 ∧ Below w.heap.size w wr) := Lib.hid ⟨row?_below hrk hbl HBW.out, HRO.out _ HW.out, HW.out, HBW.out⟩
          have HS2 : Hid (row? wr.drew b (o + k * 17) 17 = some (adC c) ∧ row? wr.drew w.heap.size 0 17 = some (adC a) ∧ ObjAt wr.drew w.heap.size (adC a).toArray 37 ∧ Below w.heap.size w wr.drew) := Lib.hid ⟨HS0.out.1, HS0.out.2.1, HS0.out.2.2.1, bdrewN HS0.out.2.2.2 1⟩
          clear hlt RA hbl hrk hoc hgc
          go_upto_region 4 with (fail)
          refine wp_region_held_drew (S := (fun W => row? W b (o + k * 17) 17 = some (adC c) ∧ row? W w.heap.size 0 17 = some (adC a) ∧ ObjAt W w.heap.size (adC a).toArray 37 ∧ Below w.heap.size w W)) (by kernel_rfl) (HS2.out) (fun hHeld => ?_)
          generalize World.drew wr = wa at HS2 hHeld ⊢
          refine wpAnyH_take (i := 0) (oi := { dst := some 15, op := _, type := _, pos := _, after := _, guard := _ }) (v := ?v1) rfl (by kernel_rfl) (by kernel_rfl) (by kernel_rfl) (fun _ _ _ h => h) (Or.inl ⟨by rfl, ?y1⟩) (by assumption) ?r1
          case y1 => (intro w hSw; obtain ⟨s1, s2, s3, s4⟩ := hSw; go_simp; try with_reducible rfl)
          try simp only [Act.put, List.setIfInBounds_toArray, List.set_cons_zero, List.set_cons_succ]
          refine wpAnyH_take (i := 1) (oi := { dst := some 16, op := _, type := _, pos := _, after := _, guard := _ }) (v := ?v2) rfl (by kernel_rfl) (by kernel_rfl) (by kernel_rfl) (fun _ _ _ h => h) (Or.inl ⟨by rfl, ?y2⟩) (by assumption) ?r2
          case y2 => (intro w hSw; obtain ⟨s1, s2, s3, s4⟩ := hSw; go_simp; try with_reducible rfl)
          try simp only [Act.put, List.setIfInBounds_toArray, List.set_cons_zero, List.set_cons_succ]
          refine wpAnyH_take (i := 2) (oi := { dst := some 17, op := _, type := _, pos := _, after := _, guard := _ }) (v := ?v3) rfl (by kernel_rfl) (by kernel_rfl) (by kernel_rfl) (fun _ _ _ h => h) (Or.inl ⟨by rfl, ?y3⟩) (by assumption) ?r3
          case y3 => (intro w hSw; obtain ⟨s1, s2, s3, s4⟩ := hSw; go_simp; try with_reducible rfl)
          try simp only [Act.put, List.setIfInBounds_toArray, List.set_cons_zero, List.set_cons_succ]
          refine wpAnyH_take (i := 3) (oi := { dst := some 18, op := _, type := _, pos := _, after := _, guard := _ }) (v := ?v4) rfl (by kernel_rfl) (by kernel_rfl) (by kernel_rfl) (fun _ _ _ h => h) (Or.inl ⟨by rfl, ?y4⟩) (by assumption) ?r4
          case y4 => (intro w hSw; obtain ⟨s1, s2, s3, s4⟩ := hSw; go_simp; try with_reducible rfl)
          try simp only [Act.put, List.setIfInBounds_toArray, List.set_cons_zero, List.set_cons_succ]
          refine wpAnyH_take (i := 4) (oi := { dst := some 19, op := _, type := _, pos := _, after := _, guard := _ }) (v := ?v5) rfl (by kernel_rfl) (by kernel_rfl) (by kernel_rfl) (fun _ _ _ h => h) (Or.inl ⟨by rfl, ?y5⟩) (by assumption) ?r5
          case y5 => (intro w hSw; obtain ⟨s1, s2, s3, s4⟩ := hSw; go_simp; try with_reducible rfl)
          try simp only [Act.put, List.setIfInBounds_toArray, List.set_cons_zero, List.set_cons_succ]
          refine wpAnyH_take (i := 5) (oi := { dst := some 20, op := _, type := _, pos := _, after := _, guard := _ }) (v := ?v6) rfl (by kernel_rfl) (by kernel_rfl) (by kernel_rfl) (fun _ _ _ h => h) (Or.inl ⟨by rfl, ?y6⟩) (by assumption) ?r6
          case y6 => (intro w hSw; obtain ⟨s1, s2, s3, s4⟩ := hSw; go_simp; try with_reducible rfl)
          try simp only [Act.put, List.setIfInBounds_toArray, List.set_cons_zero, List.set_cons_succ]
          refine wpAnyH_take (i := 6) (oi := { dst := some 21, op := _, type := _, pos := _, after := _, guard := _ }) (v := ?v7) rfl (by kernel_rfl) (by kernel_rfl) (by kernel_rfl) (fun _ _ _ h => h) (Or.inl ⟨by rfl, ?y7⟩) (by assumption) ?r7
          case y7 => (intro w hSw; obtain ⟨s1, s2, s3, s4⟩ := hSw; go_simp; try with_reducible rfl)
          try simp only [Act.put, List.setIfInBounds_toArray, List.set_cons_zero, List.set_cons_succ]
          refine wpAnyH_take (i := 7) (oi := { dst := some 22, op := _, type := _, pos := _, after := _, guard := _ }) (v := ?v8) rfl (by kernel_rfl) (by kernel_rfl) (by kernel_rfl) (fun _ _ _ h => h) (Or.inl ⟨by rfl, ?y8⟩) (by assumption) ?r8
          case y8 => (intro w hSw; obtain ⟨s1, s2, s3, s4⟩ := hSw; go_simp; try with_reducible rfl)
          try simp only [Act.put, List.setIfInBounds_toArray, List.set_cons_zero, List.set_cons_succ]
          refine wpAnyH_take (i := 8) (oi := { dst := some 23, op := _, type := _, pos := _, after := _, guard := _ }) (v := ?v9) rfl (by kernel_rfl) (by kernel_rfl) (by kernel_rfl) (fun _ _ _ h => h) (Or.inl ⟨by rfl, ?y9⟩) (by assumption) ?r9
          case y9 => (intro w hSw; obtain ⟨s1, s2, s3, s4⟩ := hSw; go_simp; try with_reducible rfl)
          try simp only [Act.put, List.setIfInBounds_toArray, List.set_cons_zero, List.set_cons_succ]
          refine wpAnyH_take (i := 9) (oi := { dst := some 24, op := _, type := _, pos := _, after := _, guard := _ }) (v := ?v10) rfl (by kernel_rfl) (by kernel_rfl) (by kernel_rfl) (fun _ _ _ h => h) (Or.inl ⟨by rfl, ?y10⟩) (by assumption) ?r10
          case y10 => (intro w hSw; obtain ⟨s1, s2, s3, s4⟩ := hSw; go_simp; try with_reducible rfl)
          try simp only [Act.put, List.setIfInBounds_toArray, List.set_cons_zero, List.set_cons_succ]
          refine wpAnyH_ready (rs := [10]) (by kernel_rfl) (by simp) (AllReadyH.cons (o := { dst := some 25, op := _, type := _, pos := _, after := _, guard := _ }) rfl (fun K hK => ?_) AllReadyH.nil)
          go_simp
          (go_at_call 51; (with_reducible refine (HC.out _).mono ?_); rintro x wn ⟨rfl, hb⟩; have HS1 := Lib.hid (HSK.out _ _ HS2.out hb); clear hb)
          try go_wp2_with fail
          refine hK.out _ _ (HS1.out) (fun hHeld => ?_)
          clear hK K
          try simp only [Act.put, List.setIfInBounds_toArray, List.set_cons_zero, List.set_cons_succ]
          refine wpAnyH_take (i := 11) (oi := { dst := some 26, op := _, type := _, pos := _, after := _, guard := _ }) (v := ?v11) rfl (by kernel_rfl) (by kernel_rfl) (by kernel_rfl) (fun _ _ _ h => h) (Or.inl ⟨by rfl, ?y11⟩) (by assumption) ?r11
          case y11 => (intro w hSw; obtain ⟨s1, s2, s3, s4⟩ := hSw; go_simp; try with_reducible rfl)
          try simp only [Act.put, List.setIfInBounds_toArray, List.set_cons_zero, List.set_cons_succ]
          refine wpAnyH_take (i := 12) (oi := { dst := some 27, op := _, type := _, pos := _, after := _, guard := _ }) (v := ?v12) rfl (by kernel_rfl) (by kernel_rfl) (by kernel_rfl) (fun _ _ _ h => h) (Or.inl ⟨by rfl, ?y12⟩) (by assumption) ?r12
          case y12 => (intro w hSw; obtain ⟨s1, s2, s3, s4⟩ := hSw; go_simp; try with_reducible rfl)
          try simp only [Act.put, List.setIfInBounds_toArray, List.set_cons_zero, List.set_cons_succ]
          refine wpAnyH_done (by kernel_rfl) ?_ _
        case' inr.inr =>
          have hd : ¬ (k : Int) < (n : Int) := by have := HN.out; omega
          go_upto_region 4 with (fail)
          go_quiet (fail)
        case inl =>
          go_wp2
          go_roundw
          case rel => exact ⟨k + 1, by omega, by go_num, Lib.hid (fun x hx => by rw [HMT.out, List.mem_append] at hx; rcases hx with hx | hx; exact HT.out x hx; rw [List.mem_singleton] at hx; rw [hx]; exact HLT.out), Lib.hid HS1.out.2.2.1, Lib.hid HS1.out.2.2.2⟩
          case measure => simp [intOf]; omega
        case inr.inl =>
          have HE := Lib.hid (take_while_of (l := l) (k := k) (a := a) (by have := HN.out; omega) HT.out HKL.out)
          have HX := Lib.hid HS1.out.2.2.1
          have HBX := Lib.hid HS1.out.2.2.2
          obtain ⟨b', o', e, hbl, RA⟩ := HRA.out (fun e => by have := HN.out; rw [e] at this; simp only [List.length_nil] at this; omega)
          cases e
          clear HS1 HS2 HS0 HSK HC HMT HKL HLT hcl hd hk1 HT HW HBW
          have HST : Hid (∀ W, Below w.heap.size w W → SrcAt W (.slice (some ⟨b, o, none⟩) k cap) (l.take k)) := Lib.hid fun W h => src_take (fun i hi => row?_below (RA i hi) hbl h) OA.out (by have := HN.out; omega)
          have HSD : Hid (∀ W, Below w.heap.size w W → SrcAt W (.slice (if cap = k then some ⟨b, o, none⟩ else some ⟨b, o + k * 17, none⟩) (n - k) (cap - k)) (l.drop k)) := Lib.hid fun W h => src_drop (fun i hi => row?_below (RA i hi) hbl h) OA.out HN.out hk HCAP.out.1
          clear RA hbl
          obtain ⟨q40, hif⟩ : ∃ q, (if cap = k then some (⟨b, o, none⟩ : Addr) else some ⟨b, o + k * 17, none⟩) = q := ⟨_, rfl⟩
          rw [hif] at HSD
          rename World => Wc
          have HADD := Lib.hid (show addS ltA goodB l a = l.take k ++ a :: l.drop k by unfold addS; rw [if_neg (by simp [HNH.out, HGA.out])]; unfold insS; rw [HE.out.1, HE.out.2])
          have hkc : k ≤ cap := by have := HCAP.out.1; omega
          have hnc : n ≤ cap := HCAP.out.1
          have hlit := adsLit_run a HO.out
          go_upto_region 6 with (fail)
          refine wp_region_held_drew (S := (fun W => row? W w.heap.size 0 17 = some (adC a))) (by kernel_rfl) (HRO.out Wc.drew HX.out) (fun hHeld => ?_)
          have HXd := Lib.hid (show ObjAt Wc.drew w.heap.size (adC a).toArray 37 from HX.out)
          have HBd := Lib.hid (bdrewN HBX.out 1)
          generalize hWd : World.drew Wc = Wd at HXd hHeld ⊢
          replace HBX := Lib.hid (show Below w.heap.size w Wd from hWd ▸ HBd.out)
          replace HX := HXd
          clear HXd HBd hWd
          rename World => Wc
          refine wpAnyH_take (i := 1) (oi := { dst := some 31, op := _, type := _, pos := _, after := _, guard := _ }) (v := ?v301) rfl (by kernel_rfl) (by kernel_rfl) (by kernel_rfl) (fun _ _ _ h => h) (Or.inl ⟨by rfl, ?y301⟩) (by assumption) ?r301
          case y301 => (intro w hSw; go_simp; try with_reducible rfl)
          try simp only [Act.put, List.setIfInBounds_toArray, List.set_cons_zero, List.set_cons_succ]
          refine wpAnyH_take (i := 2) (oi := { dst := some 32, op := _, type := _, pos := _, after := _, guard := _ }) (v := ?v302) rfl (by kernel_rfl) (by kernel_rfl) (by kernel_rfl) (fun _ _ _ h => h) (Or.inl ⟨by rfl, ?y302⟩) (by assumption) ?r302
          case y302 => (intro w hSw; go_simp; try with_reducible rfl)
          try simp only [Act.put, List.setIfInBounds_toArray, List.set_cons_zero, List.set_cons_succ]
          refine wpAnyH_take (i := 3) (oi := { dst := some 33, op := _, type := _, pos := _, after := _, guard := _ }) (v := ?v303) rfl (by kernel_rfl) (by kernel_rfl) (by kernel_rfl) (fun _ _ _ h => h) (Or.inl ⟨by rfl, ?y303⟩) (by assumption) ?r303
          case y303 => (intro w hSw; go_simp; try with_reducible rfl)
          try simp only [Act.put, List.setIfInBounds_toArray, List.set_cons_zero, List.set_cons_succ]
          refine wpAnyH_take (i := 5) (oi := { dst := some 35, op := _, type := _, pos := _, after := _, guard := _ }) (v := ?v304) rfl (by kernel_rfl) (by kernel_rfl) (by kernel_rfl) (fun _ _ _ h => h) (Or.inl ⟨by rfl, ?y304⟩) (by assumption) ?r304
          case y304 => (intro w hSw; go_simp; try with_reducible rfl)
          try simp only [Act.put, List.setIfInBounds_toArray, List.set_cons_zero, List.set_cons_succ]
          refine wpAnyH_take (i := 8) (oi := { dst := some 38, op := _, type := _, pos := _, after := _, guard := _ }) (v := ?v305) rfl (by kernel_rfl) (by kernel_rfl) (by kernel_rfl) (fun _ _ _ h => h) (Or.inl ⟨by rfl, ?y305⟩) (by assumption) ?r305
          case y305 => (intro w hSw; go_simp; try with_reducible rfl)
          try simp only [Act.put, List.setIfInBounds_toArray, List.set_cons_zero, List.set_cons_succ]
          refine wpAnyH_take (i := 9) (oi := { dst := some 39, op := _, type := _, pos := _, after := _, guard := _ }) (v := ?v306) rfl (by kernel_rfl) (by kernel_rfl) (by kernel_rfl) (fun _ _ _ h => h) (Or.inl ⟨by rfl, ?y306⟩) (by assumption) ?r306
          case y306 => (intro w hSw; go_simp; try with_reducible rfl)
          try simp only [Act.put, List.setIfInBounds_toArray, List.set_cons_zero, List.set_cons_succ]
          refine wpAnyH_take (i := 10) (oi := { dst := some 40, op := _, type := _, pos := _, after := _, guard := _ }) (v := ?v307) rfl (by kernel_rfl) (by kernel_rfl) (by kernel_rfl) (fun _ _ _ h => h) (Or.inl ⟨by rfl, ?y307⟩) (by assumption) ?r307
          case y307 => (intro w hSw; go_simp; try with_reducible rfl)
          try simp only [Act.put, List.setIfInBounds_toArray, List.set_cons_zero, List.set_cons_succ]
          refine wpAnyH_ready (rs := [0, 6]) (by kernel_rfl) (by simp) (AllReadyH.cons (o := { dst := some 30, op := _, type := _, pos := _, after := _, guard := _ }) rfl (fun K hK => ?_) (AllReadyH.cons (o := { dst := some 36, op := _, type := _, pos := _, after := _, guard := _ }) rfl (fun K hK => ?_) AllReadyH.nil))
          · go_simp
            refine hK.out _ _ (HRO.out _ (HX.out.alloc _)) (fun hHeld => ?_)
            clear hK K
            try simp only [Act.put, List.setIfInBounds_toArray, List.set_cons_zero, List.set_cons_succ]
            have HOW := Lib.hid (show (Wc.alloc (.cells #[] 37)).ownsRow (w.heap.size + 1) 37 17 (.slice (some ⟨Wc.heap.size, 0, none⟩) 0 0) ([] : List AD).length (adsC []) from World.ownsRow_lit Wc #[] 0 HX.out.lt (by unfold maxLen; omega) (by simp))
            replace HX := Lib.hid (HX.out.below (bbS Wc (.cells #[] 37)) HX.out.lt)
            replace HBX := Lib.hid (bstep HBX.out (bbS Wc (.cells #[] 37)))
            generalize World.alloc Wc (.cells #[] _) = Wn at HX HBX HOW  hHeld ⊢
            generalize Wc.heap.size = g0 at HOW  ⊢
            rename World => Wc
            refine wpAnyH_ready (rs := [4, 6]) (by kernel_rfl) (by simp) (AllReadyH.cons (o := { dst := some 34, op := _, type := _, pos := _, after := _, guard := _ }) rfl (fun K hK => ?_) (AllReadyH.cons (o := { dst := some 36, op := _, type := _, pos := _, after := _, guard := _ }) rfl (fun K hK => ?_) AllReadyH.nil))
            · refine step_ap rfl ?_
              refine wp_app _ _ rfl (w.heap.size + 1) _ ([]) (l.take k) _ rfl (fun x hx => by cases hx) HOW.out rfl (HST.out _ HBX.out) (by have := HLL.out; have := HN.out; rw [List.length_take]; simp only [List.length_nil]; omega) HX.out.lt ?_
              intro v' w' hown' hgrow'
              have hge := own_geS HOW.out
              have hbg := bgrown HBX.out hgrow' (fun k hk => by have := (hge k hk).1; omega)
              have hxg := HX.out.grown hgrow' (fun e => by have := (hge _ e.symm).1; omega)
              refine hK.out _ _ (HRO.out _ hxg) (fun hHeld => ?_)
              clear hK K
              try simp only [Act.put, List.setIfInBounds_toArray, List.set_cons_zero, List.set_cons_succ]
              replace HX := Lib.hid hxg
              replace HBX := Lib.hid hbg
              rw [List.nil_append] at hown'
              have HOW := Lib.hid hown'
              clear hown' hgrow' hbg hge hxg
              rename World => Wc
              refine wpAnyH_ready (rs := [6]) (by kernel_rfl) (by simp) (AllReadyH.cons (o := { dst := some 36, op := _, type := _, pos := _, after := _, guard := _ }) rfl (fun K hK => ?_) AllReadyH.nil)
              go_simp
              refine hK.out _ _ (HRO.out _ (HX.out.alloc _)) (fun hHeld => ?_)
              clear hK K
              try simp only [Act.put, List.setIfInBounds_toArray, List.set_cons_zero, List.set_cons_succ]
              have HL6 := Lib.hid (ObjAt.made Wc (adC a).toArray 37)
              replace HX := Lib.hid (HX.out.below (bbS Wc (.cells (adC a).toArray 37)) HX.out.lt)
              replace HBX := Lib.hid (bstep HBX.out (bbS Wc (.cells (adC a).toArray 37)))
              replace HOW := Lib.hid (own_belowS HOW.out (bbS Wc (.cells (adC a).toArray 37)))
              generalize World.alloc Wc (.cells (adC a).toArray _) = Wn at HX HBX HL6 HOW hHeld ⊢
              generalize Wc.heap.size = m6 at HL6  ⊢
              rename World => Wc
              refine wpAnyH_ready (rs := [7]) (by kernel_rfl) (by simp) (AllReadyH.cons (o := { dst := some 37, op := _, type := _, pos := _, after := _, guard := _ }) rfl (fun K hK => ?_) AllReadyH.nil)
              refine step_ap rfl ?_
              refine wp_app _ _ rfl (w.heap.size + 1) _ (l.take k) ([a]) _ rfl (fun x hx => OA.out x (List.mem_of_mem_take hx)) HOW.out rfl (src_one HL6.out HO.out) (by have := HLL.out; have := HN.out; rw [List.length_take]; simp only [List.length_cons, List.length_nil]; omega) HX.out.lt ?_
              intro v' w' hown' hgrow'
              have hge := own_geS HOW.out
              have hbg := bgrown HBX.out hgrow' (fun k hk => by have := (hge k hk).1; omega)
              have hxg := HX.out.grown hgrow' (fun e => by have := (hge _ e.symm).1; omega)
              refine hK.out _ _ (HRO.out _ hxg) (fun hHeld => ?_)
              clear hK K
              try simp only [Act.put, List.setIfInBounds_toArray, List.set_cons_zero, List.set_cons_succ]
              replace HX := Lib.hid hxg
              replace HBX := Lib.hid hbg
              clear HL6
              have HOW := Lib.hid hown'
              clear hown' hgrow' hbg hge hxg
              rename World => Wc
              refine wpAnyH_ready (rs := [11]) (by kernel_rfl) (by simp) (AllReadyH.cons (o := { dst := some 41, op := _, type := _, pos := _, after := _, guard := _ }) rfl (fun K hK => ?_) AllReadyH.nil)
              refine step_ap rfl ?_
              refine wp_app _ _ rfl (w.heap.size + 1) _ (l.take k ++ [a]) (l.drop k) _ rfl (fun x hx => (List.mem_append.1 hx).elim (fun h => OA.out x (List.mem_of_mem_take h)) (fun h => by rw [List.mem_singleton] at h; rw [h]; exact HO.out)) HOW.out rfl (HSD.out _ HBX.out) (by have := HLL.out; have := HN.out; rw [List.length_append, List.length_take, List.length_drop]; simp only [List.length_cons, List.length_nil]; omega) HX.out.lt ?_
              intro v' w' hown' hgrow'
              have hge := own_geS HOW.out
              have hbg := bgrown HBX.out hgrow' (fun k hk => by have := (hge k hk).1; omega)
              have hxg := HX.out.grown hgrow' (fun e => by have := (hge _ e.symm).1; omega)
              refine hK.out _ _ (HRO.out _ hxg) (fun hHeld => ?_)
              clear hK K
              try simp only [Act.put, List.setIfInBounds_toArray, List.set_cons_zero, List.set_cons_succ]
              replace HX := Lib.hid hxg
              replace HBX := Lib.hid hbg
              skip
              have HOW := Lib.hid hown'
              clear hown' hgrow' hbg hge hxg
              rename World => Wc
              refine wpAnyH_take (i := 12) (oi := { dst := some 4, op := _, type := _, pos := _, after := _, guard := _ }) (v := ?v308) rfl (by kernel_rfl) (by kernel_rfl) (by kernel_rfl) (fun _ _ _ h => h) (Or.inl ⟨by rfl, ?y308⟩) (by assumption) ?r308
              case y308 => (intro w hSw; go_simp; try with_reducible rfl)
              try simp only [Act.put, List.setIfInBounds_toArray, List.set_cons_zero, List.set_cons_succ]
              refine wpAnyH_done (by kernel_rfl) ?_ _
              go_wp2_with fail
              go_ret
              exact ⟨_, rfl, HBX.out, by rw [HADD.out]; exact own_mono (by simpa using HOW.out) (by have := HBS.out; omega)⟩
            · go_simp
              refine hK.out _ _ (HRO.out _ (HX.out.alloc _)) (fun hHeld => ?_)
              clear hK K
              try simp only [Act.put, List.setIfInBounds_toArray, List.set_cons_zero, List.set_cons_succ]
              have HL6 := Lib.hid (ObjAt.made Wc (adC a).toArray 37)
              have HM := Lib.hid (show Wc.heap.size ≠ g0 from by have := (own_geS HOW.out g0 rfl).2; omega)
              replace HX := Lib.hid (HX.out.below (bbS Wc (.cells (adC a).toArray 37)) HX.out.lt)
              replace HBX := Lib.hid (bstep HBX.out (bbS Wc (.cells (adC a).toArray 37)))
              replace HOW := Lib.hid (own_belowS HOW.out (bbS Wc (.cells (adC a).toArray 37)))
              generalize World.alloc Wc (.cells (adC a).toArray _) = Wn at HX HBX HL6 HOW hHeld ⊢
              generalize Wc.heap.size = m6 at HL6 HM ⊢
              rename World => Wc
              refine wpAnyH_ready (rs := [4]) (by kernel_rfl) (by simp) (AllReadyH.cons (o := { dst := some 34, op := _, type := _, pos := _, after := _, guard := _ }) rfl (fun K hK => ?_) AllReadyH.nil)
              refine step_ap rfl ?_
              refine wp_app _ _ rfl (w.heap.size + 1) _ ([]) (l.take k) _ rfl (fun x hx => by cases hx) HOW.out rfl (HST.out _ HBX.out) (by have := HLL.out; have := HN.out; rw [List.length_take]; simp only [List.length_nil]; omega) HX.out.lt ?_
              intro v' w' hown' hgrow'
              have hge := own_geS HOW.out
              have hbg := bgrown HBX.out hgrow' (fun k hk => by have := (hge k hk).1; omega)
              have hxg := HX.out.grown hgrow' (fun e => by have := (hge _ e.symm).1; omega)
              refine hK.out _ _ (HRO.out _ hxg) (fun hHeld => ?_)
              clear hK K
              try simp only [Act.put, List.setIfInBounds_toArray, List.set_cons_zero, List.set_cons_succ]
              replace HX := Lib.hid hxg
              replace HL6 := Lib.hid (HL6.out.grown hgrow' (fun e => HM.out (by have e2 : some m6 = some g0 := e; cases e2; rfl)))
              replace HBX := Lib.hid hbg
              rw [List.nil_append] at hown'
              have HOW := Lib.hid hown'
              clear hown' hgrow' hbg hge hxg
              rename World => Wc
              refine wpAnyH_ready (rs := [7]) (by kernel_rfl) (by simp) (AllReadyH.cons (o := { dst := some 37, op := _, type := _, pos := _, after := _, guard := _ }) rfl (fun K hK => ?_) AllReadyH.nil)
              refine step_ap rfl ?_
              refine wp_app _ _ rfl (w.heap.size + 1) _ (l.take k) ([a]) _ rfl (fun x hx => OA.out x (List.mem_of_mem_take hx)) HOW.out rfl (src_one HL6.out HO.out) (by have := HLL.out; have := HN.out; rw [List.length_take]; simp only [List.length_cons, List.length_nil]; omega) HX.out.lt ?_
              intro v' w' hown' hgrow'
              have hge := own_geS HOW.out
              have hbg := bgrown HBX.out hgrow' (fun k hk => by have := (hge k hk).1; omega)
              have hxg := HX.out.grown hgrow' (fun e => by have := (hge _ e.symm).1; omega)
              refine hK.out _ _ (HRO.out _ hxg) (fun hHeld => ?_)
              clear hK K
              try simp only [Act.put, List.setIfInBounds_toArray, List.set_cons_zero, List.set_cons_succ]
              replace HX := Lib.hid hxg
              replace HBX := Lib.hid hbg
              clear HL6
              have HOW := Lib.hid hown'
              clear hown' hgrow' hbg hge hxg
              rename World => Wc
              refine wpAnyH_ready (rs := [11]) (by kernel_rfl) (by simp) (AllReadyH.cons (o := { dst := some 41, op := _, type := _, pos := _, after := _, guard := _ }) rfl (fun K hK => ?_) AllReadyH.nil)
              refine step_ap rfl ?_
              refine wp_app _ _ rfl (w.heap.size + 1) _ (l.take k ++ [a]) (l.drop k) _ rfl (fun x hx => (List.mem_append.1 hx).elim (fun h => OA.out x (List.mem_of_mem_take h)) (fun h => by rw [List.mem_singleton] at h; rw [h]; exact HO.out)) HOW.out rfl (HSD.out _ HBX.out) (by have := HLL.out; have := HN.out; rw [List.length_append, List.length_take, List.length_drop]; simp only [List.length_cons, List.length_nil]; omega) HX.out.lt ?_
              intro v' w' hown' hgrow'
              have hge := own_geS HOW.out
              have hbg := bgrown HBX.out hgrow' (fun k hk => by have := (hge k hk).1; omega)
              have hxg := HX.out.grown hgrow' (fun e => by have := (hge _ e.symm).1; omega)
              refine hK.out _ _ (HRO.out _ hxg) (fun hHeld => ?_)
              clear hK K
              try simp only [Act.put, List.setIfInBounds_toArray, List.set_cons_zero, List.set_cons_succ]
              replace HX := Lib.hid hxg
              replace HBX := Lib.hid hbg
              skip
              have HOW := Lib.hid hown'
              clear hown' hgrow' hbg hge hxg
              rename World => Wc
              refine wpAnyH_take (i := 12) (oi := { dst := some 4, op := _, type := _, pos := _, after := _, guard := _ }) (v := ?v309) rfl (by kernel_rfl) (by kernel_rfl) (by kernel_rfl) (fun _ _ _ h => h) (Or.inl ⟨by rfl, ?y309⟩) (by assumption) ?r309
              case y309 => (intro w hSw; go_simp; try with_reducible rfl)
              try simp only [Act.put, List.setIfInBounds_toArray, List.set_cons_zero, List.set_cons_succ]
              refine wpAnyH_done (by kernel_rfl) ?_ _
              go_wp2_with fail
              go_ret
              exact ⟨_, rfl, HBX.out, by rw [HADD.out]; exact own_mono (by simpa using HOW.out) (by have := HBS.out; omega)⟩
          · go_simp
            refine hK.out _ _ (HRO.out _ (HX.out.alloc _)) (fun hHeld => ?_)
            clear hK K
            try simp only [Act.put, List.setIfInBounds_toArray, List.set_cons_zero, List.set_cons_succ]
            have HL6 := Lib.hid (ObjAt.made Wc (adC a).toArray 37)
            replace HX := Lib.hid (HX.out.below (bbS Wc (.cells (adC a).toArray 37)) HX.out.lt)
            replace HBX := Lib.hid (bstep HBX.out (bbS Wc (.cells (adC a).toArray 37)))
            generalize World.alloc Wc (.cells (adC a).toArray _) = Wn at HX HBX HL6  hHeld ⊢
            generalize Wc.heap.size = m6 at HL6  ⊢
            rename World => Wc
            refine wpAnyH_ready (rs := [0]) (by kernel_rfl) (by simp) (AllReadyH.cons (o := { dst := some 30, op := _, type := _, pos := _, after := _, guard := _ }) rfl (fun K hK => ?_) AllReadyH.nil)
            go_simp
            refine hK.out _ _ (HRO.out _ (HX.out.alloc _)) (fun hHeld => ?_)
            clear hK K
            try simp only [Act.put, List.setIfInBounds_toArray, List.set_cons_zero, List.set_cons_succ]
            have HOW := Lib.hid (show (Wc.alloc (.cells #[] 37)).ownsRow (w.heap.size + 1) 37 17 (.slice (some ⟨Wc.heap.size, 0, none⟩) 0 0) ([] : List AD).length (adsC []) from World.ownsRow_lit Wc #[] 0 HX.out.lt (by unfold maxLen; omega) (by simp))
            have HM := Lib.hid (show m6 ≠ Wc.heap.size from by have := HL6.out.lt; omega)
            replace HX := Lib.hid (HX.out.below (bbS Wc (.cells #[] 37)) HX.out.lt)
            replace HBX := Lib.hid (bstep HBX.out (bbS Wc (.cells #[] 37)))
            replace HL6 := Lib.hid (HL6.out.below (bbS Wc (.cells #[] 37)) HL6.out.lt)
            generalize World.alloc Wc (.cells #[] _) = Wn at HX HBX HOW HL6 hHeld ⊢
            generalize Wc.heap.size = g0 at HOW HM ⊢
            rename World => Wc
            refine wpAnyH_ready (rs := [4]) (by kernel_rfl) (by simp) (AllReadyH.cons (o := { dst := some 34, op := _, type := _, pos := _, after := _, guard := _ }) rfl (fun K hK => ?_) AllReadyH.nil)
            refine step_ap rfl ?_
            refine wp_app _ _ rfl (w.heap.size + 1) _ ([]) (l.take k) _ rfl (fun x hx => by cases hx) HOW.out rfl (HST.out _ HBX.out) (by have := HLL.out; have := HN.out; rw [List.length_take]; simp only [List.length_nil]; omega) HX.out.lt ?_
            intro v' w' hown' hgrow'
            have hge := own_geS HOW.out
            have hbg := bgrown HBX.out hgrow' (fun k hk => by have := (hge k hk).1; omega)
            have hxg := HX.out.grown hgrow' (fun e => by have := (hge _ e.symm).1; omega)
            refine hK.out _ _ (HRO.out _ hxg) (fun hHeld => ?_)
            clear hK K
            try simp only [Act.put, List.setIfInBounds_toArray, List.set_cons_zero, List.set_cons_succ]
            replace HX := Lib.hid hxg
            replace HL6 := Lib.hid (HL6.out.grown hgrow' (fun e => HM.out (by have e2 : some m6 = some g0 := e; cases e2; rfl)))
            replace HBX := Lib.hid hbg
            rw [List.nil_append] at hown'
            have HOW := Lib.hid hown'
            clear hown' hgrow' hbg hge hxg
            rename World => Wc
            refine wpAnyH_ready (rs := [7]) (by kernel_rfl) (by simp) (AllReadyH.cons (o := { dst := some 37, op := _, type := _, pos := _, after := _, guard := _ }) rfl (fun K hK => ?_) AllReadyH.nil)
            refine step_ap rfl ?_
            refine wp_app _ _ rfl (w.heap.size + 1) _ (l.take k) ([a]) _ rfl (fun x hx => OA.out x (List.mem_of_mem_take hx)) HOW.out rfl (src_one HL6.out HO.out) (by have := HLL.out; have := HN.out; rw [List.length_take]; simp only [List.length_cons, List.length_nil]; omega) HX.out.lt ?_
            intro v' w' hown' hgrow'
            have hge := own_geS HOW.out
            have hbg := bgrown HBX.out hgrow' (fun k hk => by have := (hge k hk).1; omega)
            have hxg := HX.out.grown hgrow' (fun e => by have := (hge _ e.symm).1; omega)
            refine hK.out _ _ (HRO.out _ hxg) (fun hHeld => ?_)
            clear hK K
            try simp only [Act.put, List.setIfInBounds_toArray, List.set_cons_zero, List.set_cons_succ]
            replace HX := Lib.hid hxg
            replace HBX := Lib.hid hbg
            clear HL6
            have HOW := Lib.hid hown'
            clear hown' hgrow' hbg hge hxg
            rename World => Wc
            refine wpAnyH_ready (rs := [11]) (by kernel_rfl) (by simp) (AllReadyH.cons (o := { dst := some 41, op := _, type := _, pos := _, after := _, guard := _ }) rfl (fun K hK => ?_) AllReadyH.nil)
            refine step_ap rfl ?_
            refine wp_app _ _ rfl (w.heap.size + 1) _ (l.take k ++ [a]) (l.drop k) _ rfl (fun x hx => (List.mem_append.1 hx).elim (fun h => OA.out x (List.mem_of_mem_take h)) (fun h => by rw [List.mem_singleton] at h; rw [h]; exact HO.out)) HOW.out rfl (HSD.out _ HBX.out) (by have := HLL.out; have := HN.out; rw [List.length_append, List.length_take, List.length_drop]; simp only [List.length_cons, List.length_nil]; omega) HX.out.lt ?_
            intro v' w' hown' hgrow'
            have hge := own_geS HOW.out
            have hbg := bgrown HBX.out hgrow' (fun k hk => by have := (hge k hk).1; omega)
            have hxg := HX.out.grown hgrow' (fun e => by have := (hge _ e.symm).1; omega)
            refine hK.out _ _ (HRO.out _ hxg) (fun hHeld => ?_)
            clear hK K
            try simp only [Act.put, List.setIfInBounds_toArray, List.set_cons_zero, List.set_cons_succ]
            replace HX := Lib.hid hxg
            replace HBX := Lib.hid hbg
            skip
            have HOW := Lib.hid hown'
            clear hown' hgrow' hbg hge hxg
            rename World => Wc
            refine wpAnyH_take (i := 12) (oi := { dst := some 4, op := _, type := _, pos := _, after := _, guard := _ }) (v := ?v310) rfl (by kernel_rfl) (by kernel_rfl) (by kernel_rfl) (fun _ _ _ h => h) (Or.inl ⟨by rfl, ?y310⟩) (by assumption) ?r310
            case y310 => (intro w hSw; go_simp; try with_reducible rfl)
            try simp only [Act.put, List.setIfInBounds_toArray, List.set_cons_zero, List.set_cons_succ]
            refine wpAnyH_done (by kernel_rfl) ?_ _
            go_wp2_with fail
            go_ret
            exact ⟨_, rfl, HBX.out, by rw [HADD.out]; exact own_mono (by simpa using HOW.out) (by have := HBS.out; omega)⟩
        case inr.inr =>
          have HE := Lib.hid (take_while_of (l := l) (k := k) (a := a) (by have := HN.out; omega) HT.out (fun h => absurd h g1))
          have HX := Lib.hid (show ObjAt (wr.drewN nq) w.heap.size (adC a).toArray 37 from HW.out)
          have HBX := Lib.hid (bdrewN HBW.out nq)
          generalize World.drewN wr nq = Wc at HX HBX ⊢
          have hkn : k = n := by have := HN.out; omega
          clear g1 hd HT HW HBW
          rcases own_at OA.out HOWN.out with ⟨hp0, hc0, hl0⟩ | ⟨g, hp0, hgl, RA⟩
          · subst hp0
            obtain rfl : cap = 0 := hc0
            obtain rfl : n = 0 := by have := HCAP.out.1; omega
            subst hkn
            have HST : Hid (∀ W, Below w.heap.size w W → SrcAt W (.slice none 0 0) (l.take 0)) := Lib.hid fun W h => ⟨fun x hx => by simp at hx, Or.inl ⟨rfl, rfl⟩⟩
            have HSD : Hid (∀ W, Below w.heap.size w W → SrcAt W (.slice none 0 0) (l.drop 0)) := Lib.hid fun W h => ⟨fun x hx => OA.out x (List.mem_of_mem_drop hx), Or.inl ⟨rfl, by rw [hl0]; rfl⟩⟩
            clear hl0
            have HADD := Lib.hid (show addS ltA goodB l a = l.take 0 ++ a :: l.drop 0 by unfold addS; rw [if_neg (by simp [HNH.out, HGA.out])]; unfold insS; rw [HE.out.1, HE.out.2])
            have hkc : 0 ≤ 0 := Nat.le_refl _
            have hnc : 0 ≤ 0 := Nat.le_refl _
            have hlit := adsLit_run a HO.out
            go_upto_region 6 with (fail)
            refine wp_region_held_drew (S := (fun W => row? W w.heap.size 0 17 = some (adC a))) (by kernel_rfl) (HRO.out Wc.drew HX.out) (fun hHeld => ?_)
            have HXd := Lib.hid (show ObjAt Wc.drew w.heap.size (adC a).toArray 37 from HX.out)
            have HBd := Lib.hid (bdrewN HBX.out 1)
            generalize hWd : World.drew Wc = Wd at HXd hHeld ⊢
            replace HBX := Lib.hid (show Below w.heap.size w Wd from hWd ▸ HBd.out)
            replace HX := HXd
            clear HXd HBd hWd
            rename World => Wc
            refine wpAnyH_take (i := 1) (oi := { dst := some 31, op := _, type := _, pos := _, after := _, guard := _ }) (v := ?v401) rfl (by kernel_rfl) (by kernel_rfl) (by kernel_rfl) (fun _ _ _ h => h) (Or.inl ⟨by rfl, ?y401⟩) (by assumption) ?r401
            case y401 => (intro w hSw; go_simp; try with_reducible rfl)
            try simp only [Act.put, List.setIfInBounds_toArray, List.set_cons_zero, List.set_cons_succ]
            refine wpAnyH_take (i := 2) (oi := { dst := some 32, op := _, type := _, pos := _, after := _, guard := _ }) (v := ?v402) rfl (by kernel_rfl) (by kernel_rfl) (by kernel_rfl) (fun _ _ _ h => h) (Or.inl ⟨by rfl, ?y402⟩) (by assumption) ?r402
            case y402 => (intro w hSw; go_simp; try with_reducible rfl)
            try simp only [Act.put, List.setIfInBounds_toArray, List.set_cons_zero, List.set_cons_succ]
            refine wpAnyH_take (i := 3) (oi := { dst := some 33, op := _, type := _, pos := _, after := _, guard := _ }) (v := ?v403) rfl (by kernel_rfl) (by kernel_rfl) (by kernel_rfl) (fun _ _ _ h => h) (Or.inl ⟨by rfl, ?y403⟩) (by assumption) ?r403
            case y403 => (intro w hSw; go_simp; try with_reducible rfl)
            try simp only [Act.put, List.setIfInBounds_toArray, List.set_cons_zero, List.set_cons_succ]
            refine wpAnyH_take (i := 5) (oi := { dst := some 35, op := _, type := _, pos := _, after := _, guard := _ }) (v := ?v404) rfl (by kernel_rfl) (by kernel_rfl) (by kernel_rfl) (fun _ _ _ h => h) (Or.inl ⟨by rfl, ?y404⟩) (by assumption) ?r404
            case y404 => (intro w hSw; go_simp; try with_reducible rfl)
            try simp only [Act.put, List.setIfInBounds_toArray, List.set_cons_zero, List.set_cons_succ]
            refine wpAnyH_take (i := 8) (oi := { dst := some 38, op := _, type := _, pos := _, after := _, guard := _ }) (v := ?v405) rfl (by kernel_rfl) (by kernel_rfl) (by kernel_rfl) (fun _ _ _ h => h) (Or.inl ⟨by rfl, ?y405⟩) (by assumption) ?r405
            case y405 => (intro w hSw; go_simp; try with_reducible rfl)
            try simp only [Act.put, List.setIfInBounds_toArray, List.set_cons_zero, List.set_cons_succ]
            refine wpAnyH_take (i := 9) (oi := { dst := some 39, op := _, type := _, pos := _, after := _, guard := _ }) (v := ?v406) rfl (by kernel_rfl) (by kernel_rfl) (by kernel_rfl) (fun _ _ _ h => h) (Or.inl ⟨by rfl, ?y406⟩) (by assumption) ?r406
            case y406 => (intro w hSw; go_simp; try with_reducible rfl)
            try simp only [Act.put, List.setIfInBounds_toArray, List.set_cons_zero, List.set_cons_succ]
            refine wpAnyH_take (i := 10) (oi := { dst := some 40, op := _, type := _, pos := _, after := _, guard := _ }) (v := ?v407) rfl (by kernel_rfl) (by kernel_rfl) (by kernel_rfl) (fun _ _ _ h => h) (Or.inl ⟨by rfl, ?y407⟩) (by assumption) ?r407
            case y407 => (intro w hSw; go_simp; try with_reducible rfl)
            try simp only [Act.put, List.setIfInBounds_toArray, List.set_cons_zero, List.set_cons_succ]
            refine wpAnyH_ready (rs := [0, 6]) (by kernel_rfl) (by simp) (AllReadyH.cons (o := { dst := some 30, op := _, type := _, pos := _, after := _, guard := _ }) rfl (fun K hK => ?_) (AllReadyH.cons (o := { dst := some 36, op := _, type := _, pos := _, after := _, guard := _ }) rfl (fun K hK => ?_) AllReadyH.nil))
            · go_simp
              refine hK.out _ _ (HRO.out _ (HX.out.alloc _)) (fun hHeld => ?_)
              clear hK K
              try simp only [Act.put, List.setIfInBounds_toArray, List.set_cons_zero, List.set_cons_succ]
              have HOW := Lib.hid (show (Wc.alloc (.cells #[] 37)).ownsRow (w.heap.size + 1) 37 17 (.slice (some ⟨Wc.heap.size, 0, none⟩) 0 0) ([] : List AD).length (adsC []) from World.ownsRow_lit Wc #[] 0 HX.out.lt (by unfold maxLen; omega) (by simp))
              replace HX := Lib.hid (HX.out.below (bbS Wc (.cells #[] 37)) HX.out.lt)
              replace HBX := Lib.hid (bstep HBX.out (bbS Wc (.cells #[] 37)))
              generalize World.alloc Wc (.cells #[] _) = Wn at HX HBX HOW  hHeld ⊢
              generalize Wc.heap.size = g0 at HOW  ⊢
              rename World => Wc
              refine wpAnyH_ready (rs := [4, 6]) (by kernel_rfl) (by simp) (AllReadyH.cons (o := { dst := some 34, op := _, type := _, pos := _, after := _, guard := _ }) rfl (fun K hK => ?_) (AllReadyH.cons (o := { dst := some 36, op := _, type := _, pos := _, after := _, guard := _ }) rfl (fun K hK => ?_) AllReadyH.nil))
              · refine step_ap rfl ?_
                refine wp_app _ _ rfl (w.heap.size + 1) _ ([]) (l.take 0) _ rfl (fun x hx => by cases hx) HOW.out rfl (HST.out _ HBX.out) (by have := HLL.out; have := HN.out; rw [List.length_take]; simp only [List.length_nil]; omega) HX.out.lt ?_
                intro v' w' hown' hgrow'
                have hge := own_geS HOW.out
                have hbg := bgrown HBX.out hgrow' (fun k hk => by have := (hge k hk).1; omega)
                have hxg := HX.out.grown hgrow' (fun e => by have := (hge _ e.symm).1; omega)
                refine hK.out _ _ (HRO.out _ hxg) (fun hHeld => ?_)
                clear hK K
                try simp only [Act.put, List.setIfInBounds_toArray, List.set_cons_zero, List.set_cons_succ]
                replace HX := Lib.hid hxg
                replace HBX := Lib.hid hbg
                rw [List.nil_append] at hown'
                have HOW := Lib.hid hown'
                clear hown' hgrow' hbg hge hxg
                rename World => Wc
                refine wpAnyH_ready (rs := [6]) (by kernel_rfl) (by simp) (AllReadyH.cons (o := { dst := some 36, op := _, type := _, pos := _, after := _, guard := _ }) rfl (fun K hK => ?_) AllReadyH.nil)
                go_simp
                refine hK.out _ _ (HRO.out _ (HX.out.alloc _)) (fun hHeld => ?_)
                clear hK K
                try simp only [Act.put, List.setIfInBounds_toArray, List.set_cons_zero, List.set_cons_succ]
                have HL6 := Lib.hid (ObjAt.made Wc (adC a).toArray 37)
                replace HX := Lib.hid (HX.out.below (bbS Wc (.cells (adC a).toArray 37)) HX.out.lt)
                replace HBX := Lib.hid (bstep HBX.out (bbS Wc (.cells (adC a).toArray 37)))
                replace HOW := Lib.hid (own_belowS HOW.out (bbS Wc (.cells (adC a).toArray 37)))
                generalize World.alloc Wc (.cells (adC a).toArray _) = Wn at HX HBX HL6 HOW hHeld ⊢
                generalize Wc.heap.size = m6 at HL6  ⊢
                rename World => Wc
                refine wpAnyH_ready (rs := [7]) (by kernel_rfl) (by simp) (AllReadyH.cons (o := { dst := some 37, op := _, type := _, pos := _, after := _, guard := _ }) rfl (fun K hK => ?_) AllReadyH.nil)
                refine step_ap rfl ?_
                refine wp_app _ _ rfl (w.heap.size + 1) _ (l.take 0) ([a]) _ rfl (fun x hx => OA.out x (List.mem_of_mem_take hx)) HOW.out rfl (src_one HL6.out HO.out) (by have := HLL.out; have := HN.out; rw [List.length_take]; simp only [List.length_cons, List.length_nil]; omega) HX.out.lt ?_
                intro v' w' hown' hgrow'
                have hge := own_geS HOW.out
                have hbg := bgrown HBX.out hgrow' (fun k hk => by have := (hge k hk).1; omega)
                have hxg := HX.out.grown hgrow' (fun e => by have := (hge _ e.symm).1; omega)
                refine hK.out _ _ (HRO.out _ hxg) (fun hHeld => ?_)
                clear hK K
                try simp only [Act.put, List.setIfInBounds_toArray, List.set_cons_zero, List.set_cons_succ]
                replace HX := Lib.hid hxg
                replace HBX := Lib.hid hbg
                clear HL6
                have HOW := Lib.hid hown'
                clear hown' hgrow' hbg hge hxg
                rename World => Wc
                refine wpAnyH_ready (rs := [11]) (by kernel_rfl) (by simp) (AllReadyH.cons (o := { dst := some 41, op := _, type := _, pos := _, after := _, guard := _ }) rfl (fun K hK => ?_) AllReadyH.nil)
                refine step_ap rfl ?_
                refine wp_app _ _ rfl (w.heap.size + 1) _ (l.take 0 ++ [a]) (l.drop 0) _ rfl (fun x hx => (List.mem_append.1 hx).elim (fun h => OA.out x (List.mem_of_mem_take h)) (fun h => by rw [List.mem_singleton] at h; rw [h]; exact HO.out)) HOW.out rfl (HSD.out _ HBX.out) (by have := HLL.out; have := HN.out; rw [List.length_append, List.length_take, List.length_drop]; simp only [List.length_cons, List.length_nil]; omega) HX.out.lt ?_
                intro v' w' hown' hgrow'
                have hge := own_geS HOW.out
                have hbg := bgrown HBX.out hgrow' (fun k hk => by have := (hge k hk).1; omega)
                have hxg := HX.out.grown hgrow' (fun e => by have := (hge _ e.symm).1; omega)
                refine hK.out _ _ (HRO.out _ hxg) (fun hHeld => ?_)
                clear hK K
                try simp only [Act.put, List.setIfInBounds_toArray, List.set_cons_zero, List.set_cons_succ]
                replace HX := Lib.hid hxg
                replace HBX := Lib.hid hbg
                skip
                have HOW := Lib.hid hown'
                clear hown' hgrow' hbg hge hxg
                rename World => Wc
                refine wpAnyH_take (i := 12) (oi := { dst := some 4, op := _, type := _, pos := _, after := _, guard := _ }) (v := ?v408) rfl (by kernel_rfl) (by kernel_rfl) (by kernel_rfl) (fun _ _ _ h => h) (Or.inl ⟨by rfl, ?y408⟩) (by assumption) ?r408
                case y408 => (intro w hSw; go_simp; try with_reducible rfl)
                try simp only [Act.put, List.setIfInBounds_toArray, List.set_cons_zero, List.set_cons_succ]
                refine wpAnyH_done (by kernel_rfl) ?_ _
                go_wp2_with fail
                go_ret
                exact ⟨_, rfl, HBX.out, by rw [HADD.out]; exact own_mono (by simpa using HOW.out) (by have := HBS.out; omega)⟩
              · go_simp
                refine hK.out _ _ (HRO.out _ (HX.out.alloc _)) (fun hHeld => ?_)
                clear hK K
                try simp only [Act.put, List.setIfInBounds_toArray, List.set_cons_zero, List.set_cons_succ]
                have HL6 := Lib.hid (ObjAt.made Wc (adC a).toArray 37)
                have HM := Lib.hid (show Wc.heap.size ≠ g0 from by have := (own_geS HOW.out g0 rfl).2; omega)
                replace HX := Lib.hid (HX.out.below (bbS Wc (.cells (adC a).toArray 37)) HX.out.lt)
                replace HBX := Lib.hid (bstep HBX.out (bbS Wc (.cells (adC a).toArray 37)))
                replace HOW := Lib.hid (own_belowS HOW.out (bbS Wc (.cells (adC a).toArray 37)))
                generalize World.alloc Wc (.cells (adC a).toArray _) = Wn at HX HBX HL6 HOW hHeld ⊢
                generalize Wc.heap.size = m6 at HL6 HM ⊢
                rename World => Wc
                refine wpAnyH_ready (rs := [4]) (by kernel_rfl) (by simp) (AllReadyH.cons (o := { dst := some 34, op := _, type := _, pos := _, after := _, guard := _ }) rfl (fun K hK => ?_) AllReadyH.nil)
                refine step_ap rfl ?_
                refine wp_app _ _ rfl (w.heap.size + 1) _ ([]) (l.take 0) _ rfl (fun x hx => by cases hx) HOW.out rfl (HST.out _ HBX.out) (by have := HLL.out; have := HN.out; rw [List.length_take]; simp only [List.length_nil]; omega) HX.out.lt ?_
                intro v' w' hown' hgrow'
                have hge := own_geS HOW.out
                have hbg := bgrown HBX.out hgrow' (fun k hk => by have := (hge k hk).1; omega)
                have hxg := HX.out.grown hgrow' (fun e => by have := (hge _ e.symm).1; omega)
                refine hK.out _ _ (HRO.out _ hxg) (fun hHeld => ?_)
                clear hK K
                try simp only [Act.put, List.setIfInBounds_toArray, List.set_cons_zero, List.set_cons_succ]
                replace HX := Lib.hid hxg
                replace HL6 := Lib.hid (HL6.out.grown hgrow' (fun e => HM.out (by have e2 : some m6 = some g0 := e; cases e2; rfl)))
                replace HBX := Lib.hid hbg
                rw [List.nil_append] at hown'
                have HOW := Lib.hid hown'
                clear hown' hgrow' hbg hge hxg
                rename World => Wc
                refine wpAnyH_ready (rs := [7]) (by kernel_rfl) (by simp) (AllReadyH.cons (o := { dst := some 37, op := _, type := _, pos := _, after := _, guard := _ }) rfl (fun K hK => ?_) AllReadyH.nil)
                refine step_ap rfl ?_
                refine wp_app _ _ rfl (w.heap.size + 1) _ (l.take 0) ([a]) _ rfl (fun x hx => OA.out x (List.mem_of_mem_take hx)) HOW.out rfl (src_one HL6.out HO.out) (by have := HLL.out; have := HN.out; rw [List.length_take]; simp only [List.length_cons, List.length_nil]; omega) HX.out.lt ?_
                intro v' w' hown' hgrow'
                have hge := own_geS HOW.out
                have hbg := bgrown HBX.out hgrow' (fun k hk => by have := (hge k hk).1; omega)
                have hxg := HX.out.grown hgrow' (fun e => by have := (hge _ e.symm).1; omega)
                refine hK.out _ _ (HRO.out _ hxg) (fun hHeld => ?_)
                clear hK K
                try simp only [Act.put, List.setIfInBounds_toArray, List.set_cons_zero, List.set_cons_succ]
                replace HX := Lib.hid hxg
                replace HBX := Lib.hid hbg
                clear HL6
                have HOW := Lib.hid hown'
                clear hown' hgrow' hbg hge hxg
                rename World => Wc
                refine wpAnyH_ready (rs := [11]) (by kernel_rfl) (by simp) (AllReadyH.cons (o := { dst := some 41, op := _, type := _, pos := _, after := _, guard := _ }) rfl (fun K hK => ?_) AllReadyH.nil)
                refine step_ap rfl ?_
                refine wp_app _ _ rfl (w.heap.size + 1) _ (l.take 0 ++ [a]) (l.drop 0) _ rfl (fun x hx => (List.mem_append.1 hx).elim (fun h => OA.out x (List.mem_of_mem_take h)) (fun h => by rw [List.mem_singleton] at h; rw [h]; exact HO.out)) HOW.out rfl (HSD.out _ HBX.out) (by have := HLL.out; have := HN.out; rw [List.length_append, List.length_take, List.length_drop]; simp only [List.length_cons, List.length_nil]; omega) HX.out.lt ?_
                intro v' w' hown' hgrow'
                have hge := own_geS HOW.out
                have hbg := bgrown HBX.out hgrow' (fun k hk => by have := (hge k hk).1; omega)
                have hxg := HX.out.grown hgrow' (fun e => by have := (hge _ e.symm).1; omega)
                refine hK.out _ _ (HRO.out _ hxg) (fun hHeld => ?_)
                clear hK K
                try simp only [Act.put, List.setIfInBounds_toArray, List.set_cons_zero, List.set_cons_succ]
                replace HX := Lib.hid hxg
                replace HBX := Lib.hid hbg
                skip
                have HOW := Lib.hid hown'
                clear hown' hgrow' hbg hge hxg
                rename World => Wc
                refine wpAnyH_take (i := 12) (oi := { dst := some 4, op := _, type := _, pos := _, after := _, guard := _ }) (v := ?v409) rfl (by kernel_rfl) (by kernel_rfl) (by kernel_rfl) (fun _ _ _ h => h) (Or.inl ⟨by rfl, ?y409⟩) (by assumption) ?r409
                case y409 => (intro w hSw; go_simp; try with_reducible rfl)
                try simp only [Act.put, List.setIfInBounds_toArray, List.set_cons_zero, List.set_cons_succ]
                refine wpAnyH_done (by kernel_rfl) ?_ _
                go_wp2_with fail
                go_ret
                exact ⟨_, rfl, HBX.out, by rw [HADD.out]; exact own_mono (by simpa using HOW.out) (by have := HBS.out; omega)⟩
            · go_simp
              refine hK.out _ _ (HRO.out _ (HX.out.alloc _)) (fun hHeld => ?_)
              clear hK K
              try simp only [Act.put, List.setIfInBounds_toArray, List.set_cons_zero, List.set_cons_succ]
              have HL6 := Lib.hid (ObjAt.made Wc (adC a).toArray 37)
              replace HX := Lib.hid (HX.out.below (bbS Wc (.cells (adC a).toArray 37)) HX.out.lt)
              replace HBX := Lib.hid (bstep HBX.out (bbS Wc (.cells (adC a).toArray 37)))
              generalize World.alloc Wc (.cells (adC a).toArray _) = Wn at HX HBX HL6  hHeld ⊢
              generalize Wc.heap.size = m6 at HL6  ⊢
              rename World => Wc
              refine wpAnyH_ready (rs := [0]) (by kernel_rfl) (by simp) (AllReadyH.cons (o := { dst := some 30, op := _, type := _, pos := _, after := _, guard := _ }) rfl (fun K hK => ?_) AllReadyH.nil)
              go_simp
              refine hK.out _ _ (HRO.out _ (HX.out.alloc _)) (fun hHeld => ?_)
              clear hK K
              try simp only [Act.put, List.setIfInBounds_toArray, List.set_cons_zero, List.set_cons_succ]
              have HOW := Lib.hid (show (Wc.alloc (.cells #[] 37)).ownsRow (w.heap.size + 1) 37 17 (.slice (some ⟨Wc.heap.size, 0, none⟩) 0 0) ([] : List AD).length (adsC []) from World.ownsRow_lit Wc #[] 0 HX.out.lt (by unfold maxLen; omega) (by simp))
              have HM := Lib.hid (show m6 ≠ Wc.heap.size from by have := HL6.out.lt; omega)
              replace HX := Lib.hid (HX.out.below (bbS Wc (.cells #[] 37)) HX.out.lt)
              replace HBX := Lib.hid (bstep HBX.out (bbS Wc (.cells #[] 37)))
              replace HL6 := Lib.hid (HL6.out.below (bbS Wc (.cells #[] 37)) HL6.out.lt)
              generalize World.alloc Wc (.cells #[] _) = Wn at HX HBX HOW HL6 hHeld ⊢
              generalize Wc.heap.size = g0 at HOW HM ⊢
              rename World => Wc
              refine wpAnyH_ready (rs := [4]) (by kernel_rfl) (by simp) (AllReadyH.cons (o := { dst := some 34, op := _, type := _, pos := _, after := _, guard := _ }) rfl (fun K hK => ?_) AllReadyH.nil)
              refine step_ap rfl ?_
              refine wp_app _ _ rfl (w.heap.size + 1) _ ([]) (l.take 0) _ rfl (fun x hx => by cases hx) HOW.out rfl (HST.out _ HBX.out) (by have := HLL.out; have := HN.out; rw [List.length_take]; simp only [List.length_nil]; omega) HX.out.lt ?_
              intro v' w' hown' hgrow'
              have hge := own_geS HOW.out
              have hbg := bgrown HBX.out hgrow' (fun k hk => by have := (hge k hk).1; omega)
              have hxg := HX.out.grown hgrow' (fun e => by have := (hge _ e.symm).1; omega)
              refine hK.out _ _ (HRO.out _ hxg) (fun hHeld => ?_)
              clear hK K
              try simp only [Act.put, List.setIfInBounds_toArray, List.set_cons_zero, List.set_cons_succ]
              replace HX := Lib.hid hxg
              replace HL6 := Lib.hid (HL6.out.grown hgrow' (fun e => HM.out (by have e2 : some m6 = some g0 := e; cases e2; rfl)))
              replace HBX := Lib.hid hbg
              rw [List.nil_append] at hown'
              have HOW := Lib.hid hown'
              clear hown' hgrow' hbg hge hxg
              rename World => Wc
              refine wpAnyH_ready (rs := [7]) (by kernel_rfl) (by simp) (AllReadyH.cons (o := { dst := some 37, op := _, type := _, pos := _, after := _, guard := _ }) rfl (fun K hK => ?_) AllReadyH.nil)
              refine step_ap rfl ?_
              refine wp_app _ _ rfl (w.heap.size + 1) _ (l.take 0) ([a]) _ rfl (fun x hx => OA.out x (List.mem_of_mem_take hx)) HOW.out rfl (src_one HL6.out HO.out) (by have := HLL.out; have := HN.out; rw [List.length_take]; simp only [List.length_cons, List.length_nil]; omega) HX.out.lt ?_
              intro v' w' hown' hgrow'
              have hge := own_geS HOW.out
              have hbg := bgrown HBX.out hgrow' (fun k hk => by have := (hge k hk).1; omega)
              have hxg := HX.out.grown hgrow' (fun e => by have := (hge _ e.symm).1; omega)
              refine hK.out _ _ (HRO.out _ hxg) (fun hHeld => ?_)
              clear hK K
              try simp only [Act.put, List.setIfInBounds_toArray, List.set_cons_zero, List.set_cons_succ]
              replace HX := Lib.hid hxg
              replace HBX := Lib.hid hbg
              clear HL6
              have HOW := Lib.hid hown'
              clear hown' hgrow' hbg hge hxg
              rename World => Wc
              refine wpAnyH_ready (rs := [11]) (by kernel_rfl) (by simp) (AllReadyH.cons (o := { dst := some 41, op := _, type := _, pos := _, after := _, guard := _ }) rfl (fun K hK => ?_) AllReadyH.nil)
              refine step_ap rfl ?_
              refine wp_app _ _ rfl (w.heap.size + 1) _ (l.take 0 ++ [a]) (l.drop 0) _ rfl (fun x hx => (List.mem_append.1 hx).elim (fun h => OA.out x (List.mem_of_mem_take h)) (fun h => by rw [List.mem_singleton] at h; rw [h]; exact HO.out)) HOW.out rfl (HSD.out _ HBX.out) (by have := HLL.out; have := HN.out; rw [List.length_append, List.length_take, List.length_drop]; simp only [List.length_cons, List.length_nil]; omega) HX.out.lt ?_
              intro v' w' hown' hgrow'
              have hge := own_geS HOW.out
              have hbg := bgrown HBX.out hgrow' (fun k hk => by have := (hge k hk).1; omega)
              have hxg := HX.out.grown hgrow' (fun e => by have := (hge _ e.symm).1; omega)
              refine hK.out _ _ (HRO.out _ hxg) (fun hHeld => ?_)
              clear hK K
              try simp only [Act.put, List.setIfInBounds_toArray, List.set_cons_zero, List.set_cons_succ]
              replace HX := Lib.hid hxg
              replace HBX := Lib.hid hbg
              skip
              have HOW := Lib.hid hown'
              clear hown' hgrow' hbg hge hxg
              rename World => Wc
              refine wpAnyH_take (i := 12) (oi := { dst := some 4, op := _, type := _, pos := _, after := _, guard := _ }) (v := ?v410) rfl (by kernel_rfl) (by kernel_rfl) (by kernel_rfl) (fun _ _ _ h => h) (Or.inl ⟨by rfl, ?y410⟩) (by assumption) ?r410
              case y410 => (intro w hSw; go_simp; try with_reducible rfl)
              try simp only [Act.put, List.setIfInBounds_toArray, List.set_cons_zero, List.set_cons_succ]
              refine wpAnyH_done (by kernel_rfl) ?_ _
              go_wp2_with fail
              go_ret
              exact ⟨_, rfl, HBX.out, by rw [HADD.out]; exact own_mono (by simpa using HOW.out) (by have := HBS.out; omega)⟩
          · subst hp0
            have HST : Hid (∀ W, Below w.heap.size w W → SrcAt W (.slice (some ⟨g, 0, none⟩) k cap) (l.take k)) := Lib.hid fun W h => src_take (fun i hi => row?_below (RA i hi) hgl h) OA.out (by have := HN.out; omega)
            have HSD : Hid (∀ W, Below w.heap.size w W → SrcAt W (.slice (if cap = k then some ⟨g, 0, none⟩ else some ⟨g, k * 17, none⟩) (n - k) (cap - k)) (l.drop k)) := Lib.hid fun W h => by
              have := src_drop (cap := cap) (c := cap - k) (fun i hi => row?_below (RA i hi) hgl h) OA.out HN.out hk HCAP.out.1
              rw [Nat.zero_add] at this
              exact this
            clear RA hgl hkn
            obtain ⟨q40, hif⟩ : ∃ q, (if cap = k then some (⟨g, 0, none⟩ : Addr) else some ⟨g, k * 17, none⟩) = q := ⟨_, rfl⟩
            rw [hif] at HSD
            have HADD := Lib.hid (show addS ltA goodB l a = l.take k ++ a :: l.drop k by unfold addS; rw [if_neg (by simp [HNH.out, HGA.out])]; unfold insS; rw [HE.out.1, HE.out.2])
            have hkc : k ≤ cap := by have := HCAP.out.1; omega
            have hnc : n ≤ cap := HCAP.out.1
            have hlit := adsLit_run a HO.out
            go_upto_region 6 with (fail)
            refine wp_region_held_drew (S := (fun W => row? W w.heap.size 0 17 = some (adC a))) (by kernel_rfl) (HRO.out Wc.drew HX.out) (fun hHeld => ?_)
            have HXd := Lib.hid (show ObjAt Wc.drew w.heap.size (adC a).toArray 37 from HX.out)
            have HBd := Lib.hid (bdrewN HBX.out 1)
            generalize hWd : World.drew Wc = Wd at HXd hHeld ⊢
            replace HBX := Lib.hid (show Below w.heap.size w Wd from hWd ▸ HBd.out)
            replace HX := HXd
            clear HXd HBd hWd
            rename World => Wc
            refine wpAnyH_take (i := 1) (oi := { dst := some 31, op := _, type := _, pos := _, after := _, guard := _ }) (v := ?v501) rfl (by kernel_rfl) (by kernel_rfl) (by kernel_rfl) (fun _ _ _ h => h) (Or.inl ⟨by rfl, ?y501⟩) (by assumption) ?r501
            case y501 => (intro w hSw; go_simp; try with_reducible rfl)
            try simp only [Act.put, List.setIfInBounds_toArray, List.set_cons_zero, List.set_cons_succ]
            refine wpAnyH_take (i := 2) (oi := { dst := some 32, op := _, type := _, pos := _, after := _, guard := _ }) (v := ?v502) rfl (by kernel_rfl) (by kernel_rfl) (by kernel_rfl) (fun _ _ _ h => h) (Or.inl ⟨by rfl, ?y502⟩) (by assumption) ?r502
            case y502 => (intro w hSw; go_simp; try with_reducible rfl)
            try simp only [Act.put, List.setIfInBounds_toArray, List.set_cons_zero, List.set_cons_succ]
            refine wpAnyH_take (i := 3) (oi := { dst := some 33, op := _, type := _, pos := _, after := _, guard := _ }) (v := ?v503) rfl (by kernel_rfl) (by kernel_rfl) (by kernel_rfl) (fun _ _ _ h => h) (Or.inl ⟨by rfl, ?y503⟩) (by assumption) ?r503
            case y503 => (intro w hSw; go_simp; try with_reducible rfl)
            try simp only [Act.put, List.setIfInBounds_toArray, List.set_cons_zero, List.set_cons_succ]
            refine wpAnyH_take (i := 5) (oi := { dst := some 35, op := _, type := _, pos := _, after := _, guard := _ }) (v := ?v504) rfl (by kernel_rfl) (by kernel_rfl) (by kernel_rfl) (fun _ _ _ h => h) (Or.inl ⟨by rfl, ?y504⟩) (by assumption) ?r504
            case y504 => (intro w hSw; go_simp; try with_reducible rfl)
            try simp only [Act.put, List.setIfInBounds_toArray, List.set_cons_zero, List.set_cons_succ]
            refine wpAnyH_take (i := 8) (oi := { dst := some 38, op := _, type := _, pos := _, after := _, guard := _ }) (v := ?v505) rfl (by kernel_rfl) (by kernel_rfl) (by kernel_rfl) (fun _ _ _ h => h) (Or.inl ⟨by rfl, ?y505⟩) (by assumption) ?r505
            case y505 => (intro w hSw; go_simp; try with_reducible rfl)
            try simp only [Act.put, List.setIfInBounds_toArray, List.set_cons_zero, List.set_cons_succ]
            refine wpAnyH_take (i := 9) (oi := { dst := some 39, op := _, type := _, pos := _, after := _, guard := _ }) (v := ?v506) rfl (by kernel_rfl) (by kernel_rfl) (by kernel_rfl) (fun _ _ _ h => h) (Or.inl ⟨by rfl, ?y506⟩) (by assumption) ?r506
            case y506 => (intro w hSw; go_simp; try with_reducible rfl)
            try simp only [Act.put, List.setIfInBounds_toArray, List.set_cons_zero, List.set_cons_succ]
            refine wpAnyH_take (i := 10) (oi := { dst := some 40, op := _, type := _, pos := _, after := _, guard := _ }) (v := ?v507) rfl (by kernel_rfl) (by kernel_rfl) (by kernel_rfl) (fun _ _ _ h => h) (Or.inl ⟨by rfl, ?y507⟩) (by assumption) ?r507
            case y507 => (intro w hSw; go_simp; try with_reducible rfl)
            try simp only [Act.put, List.setIfInBounds_toArray, List.set_cons_zero, List.set_cons_succ]
            refine wpAnyH_ready (rs := [0, 6]) (by kernel_rfl) (by simp) (AllReadyH.cons (o := { dst := some 30, op := _, type := _, pos := _, after := _, guard := _ }) rfl (fun K hK => ?_) (AllReadyH.cons (o := { dst := some 36, op := _, type := _, pos := _, after := _, guard := _ }) rfl (fun K hK => ?_) AllReadyH.nil))
            · go_simp
              refine hK.out _ _ (HRO.out _ (HX.out.alloc _)) (fun hHeld => ?_)
              clear hK K
              try simp only [Act.put, List.setIfInBounds_toArray, List.set_cons_zero, List.set_cons_succ]
              have HOW := Lib.hid (show (Wc.alloc (.cells #[] 37)).ownsRow (w.heap.size + 1) 37 17 (.slice (some ⟨Wc.heap.size, 0, none⟩) 0 0) ([] : List AD).length (adsC []) from World.ownsRow_lit Wc #[] 0 HX.out.lt (by unfold maxLen; omega) (by simp))
              replace HX := Lib.hid (HX.out.below (bbS Wc (.cells #[] 37)) HX.out.lt)
              replace HBX := Lib.hid (bstep HBX.out (bbS Wc (.cells #[] 37)))
              generalize World.alloc Wc (.cells #[] _) = Wn at HX HBX HOW  hHeld ⊢
              generalize Wc.heap.size = g0 at HOW  ⊢
              rename World => Wc
              refine wpAnyH_ready (rs := [4, 6]) (by kernel_rfl) (by simp) (AllReadyH.cons (o := { dst := some 34, op := _, type := _, pos := _, after := _, guard := _ }) rfl (fun K hK => ?_) (AllReadyH.cons (o := { dst := some 36, op := _, type := _, pos := _, after := _, guard := _ }) rfl (fun K hK => ?_) AllReadyH.nil))
              · refine step_ap rfl ?_
                refine wp_app _ _ rfl (w.heap.size + 1) _ ([]) (l.take k) _ rfl (fun x hx => by cases hx) HOW.out rfl (HST.out _ HBX.out) (by have := HLL.out; have := HN.out; rw [List.length_take]; simp only [List.length_nil]; omega) HX.out.lt ?_
                intro v' w' hown' hgrow'
                have hge := own_geS HOW.out
                have hbg := bgrown HBX.out hgrow' (fun k hk => by have := (hge k hk).1; omega)
                have hxg := HX.out.grown hgrow' (fun e => by have := (hge _ e.symm).1; omega)
                refine hK.out _ _ (HRO.out _ hxg) (fun hHeld => ?_)
                clear hK K
                try simp only [Act.put, List.setIfInBounds_toArray, List.set_cons_zero, List.set_cons_succ]
                replace HX := Lib.hid hxg
                replace HBX := Lib.hid hbg
                rw [List.nil_append] at hown'
                have HOW := Lib.hid hown'
                clear hown' hgrow' hbg hge hxg
                rename World => Wc
                refine wpAnyH_ready (rs := [6]) (by kernel_rfl) (by simp) (AllReadyH.cons (o := { dst := some 36, op := _, type := _, pos := _, after := _, guard := _ }) rfl (fun K hK => ?_) AllReadyH.nil)
                go_simp
                refine hK.out _ _ (HRO.out _ (HX.out.alloc _)) (fun hHeld => ?_)
                clear hK K
                try simp only [Act.put, List.setIfInBounds_toArray, List.set_cons_zero, List.set_cons_succ]
                have HL6 := Lib.hid (ObjAt.made Wc (adC a).toArray 37)
                replace HX := Lib.hid (HX.out.below (bbS Wc (.cells (adC a).toArray 37)) HX.out.lt)
                replace HBX := Lib.hid (bstep HBX.out (bbS Wc (.cells (adC a).toArray 37)))
                replace HOW := Lib.hid (own_belowS HOW.out (bbS Wc (.cells (adC a).toArray 37)))
                generalize World.alloc Wc (.cells (adC a).toArray _) = Wn at HX HBX HL6 HOW hHeld ⊢
                generalize Wc.heap.size = m6 at HL6  ⊢
                rename World => Wc
                refine wpAnyH_ready (rs := [7]) (by kernel_rfl) (by simp) (AllReadyH.cons (o := { dst := some 37, op := _, type := _, pos := _, after := _, guard := _ }) rfl (fun K hK => ?_) AllReadyH.nil)
                refine step_ap rfl ?_
                refine wp_app _ _ rfl (w.heap.size + 1) _ (l.take k) ([a]) _ rfl (fun x hx => OA.out x (List.mem_of_mem_take hx)) HOW.out rfl (src_one HL6.out HO.out) (by have := HLL.out; have := HN.out; rw [List.length_take]; simp only [List.length_cons, List.length_nil]; omega) HX.out.lt ?_
                intro v' w' hown' hgrow'
                have hge := own_geS HOW.out
                have hbg := bgrown HBX.out hgrow' (fun k hk => by have := (hge k hk).1; omega)
                have hxg := HX.out.grown hgrow' (fun e => by have := (hge _ e.symm).1; omega)
                refine hK.out _ _ (HRO.out _ hxg) (fun hHeld => ?_)
                clear hK K
                try simp only [Act.put, List.setIfInBounds_toArray, List.set_cons_zero, List.set_cons_succ]
                replace HX := Lib.hid hxg
                replace HBX := Lib.hid hbg
                clear HL6
                have HOW := Lib.hid hown'
                clear hown' hgrow' hbg hge hxg
                rename World => Wc
                refine wpAnyH_ready (rs := [11]) (by kernel_rfl) (by simp) (AllReadyH.cons (o := { dst := some 41, op := _, type := _, pos := _, after := _, guard := _ }) rfl (fun K hK => ?_) AllReadyH.nil)
                refine step_ap rfl ?_
                refine wp_app _ _ rfl (w.heap.size + 1) _ (l.take k ++ [a]) (l.drop k) _ rfl (fun x hx => (List.mem_append.1 hx).elim (fun h => OA.out x (List.mem_of_mem_take h)) (fun h => by rw [List.mem_singleton] at h; rw [h]; exact HO.out)) HOW.out rfl (HSD.out _ HBX.out) (by have := HLL.out; have := HN.out; rw [List.length_append, List.length_take, List.length_drop]; simp only [List.length_cons, List.length_nil]; omega) HX.out.lt ?_
                intro v' w' hown' hgrow'
                have hge := own_geS HOW.out
                have hbg := bgrown HBX.out hgrow' (fun k hk => by have := (hge k hk).1; omega)
                have hxg := HX.out.grown hgrow' (fun e => by have := (hge _ e.symm).1; omega)
                refine hK.out _ _ (HRO.out _ hxg) (fun hHeld => ?_)
                clear hK K
                try simp only [Act.put, List.setIfInBounds_toArray, List.set_cons_zero, List.set_cons_succ]
                replace HX := Lib.hid hxg
                replace HBX := Lib.hid hbg
                skip
                have HOW := Lib.hid hown'
                clear hown' hgrow' hbg hge hxg
                rename World => Wc
                refine wpAnyH_take (i := 12) (oi := { dst := some 4, op := _, type := _, pos := _, after := _, guard := _ }) (v := ?v508) rfl (by kernel_rfl) (by kernel_rfl) (by kernel_rfl) (fun _ _ _ h => h) (Or.inl ⟨by rfl, ?y508⟩) (by assumption) ?r508
                case y508 => (intro w hSw; go_simp; try with_reducible rfl)
                try simp only [Act.put, List.setIfInBounds_toArray, List.set_cons_zero, List.set_cons_succ]
                refine wpAnyH_done (by kernel_rfl) ?_ _
                go_wp2_with fail
                go_ret
                exact ⟨_, rfl, HBX.out, by rw [HADD.out]; exact own_mono (by simpa using HOW.out) (by have := HBS.out; omega)⟩
              · go_simp
                refine hK.out _ _ (HRO.out _ (HX.out.alloc _)) (fun hHeld => ?_)
                clear hK K
                try simp only [Act.put, List.setIfInBounds_toArray, List.set_cons_zero, List.set_cons_succ]
                have HL6 := Lib.hid (ObjAt.made Wc (adC a).toArray 37)
                have HM := Lib.hid (show Wc.heap.size ≠ g0 from by have := (own_geS HOW.out g0 rfl).2; omega)
                replace HX := Lib.hid (HX.out.below (bbS Wc (.cells (adC a).toArray 37)) HX.out.lt)
                replace HBX := Lib.hid (bstep HBX.out (bbS Wc (.cells (adC a).toArray 37)))
                replace HOW := Lib.hid (own_belowS HOW.out (bbS Wc (.cells (adC a).toArray 37)))
                generalize World.alloc Wc (.cells (adC a).toArray _) = Wn at HX HBX HL6 HOW hHeld ⊢
                generalize Wc.heap.size = m6 at HL6 HM ⊢
                rename World => Wc
                refine wpAnyH_ready (rs := [4]) (by kernel_rfl) (by simp) (AllReadyH.cons (o := { dst := some 34, op := _, type := _, pos := _, after := _, guard := _ }) rfl (fun K hK => ?_) AllReadyH.nil)
                refine step_ap rfl ?_
                refine wp_app _ _ rfl (w.heap.size + 1) _ ([]) (l.take k) _ rfl (fun x hx => by cases hx) HOW.out rfl (HST.out _ HBX.out) (by have := HLL.out; have := HN.out; rw [List.length_take]; simp only [List.length_nil]; omega) HX.out.lt ?_
                intro v' w' hown' hgrow'
                have hge := own_geS HOW.out
                have hbg := bgrown HBX.out hgrow' (fun k hk => by have := (hge k hk).1; omega)
                have hxg := HX.out.grown hgrow' (fun e => by have := (hge _ e.symm).1; omega)
                refine hK.out _ _ (HRO.out _ hxg) (fun hHeld => ?_)
                clear hK K
                try simp only [Act.put, List.setIfInBounds_toArray, List.set_cons_zero, List.set_cons_succ]
                replace HX := Lib.hid hxg
                replace HL6 := Lib.hid (HL6.out.grown hgrow' (fun e => HM.out (by have e2 : some m6 = some g0 := e; cases e2; rfl)))
                replace HBX := Lib.hid hbg
                rw [List.nil_append] at hown'
                have HOW := Lib.hid hown'
                clear hown' hgrow' hbg hge hxg
                rename World => Wc
                refine wpAnyH_ready (rs := [7]) (by kernel_rfl) (by simp) (AllReadyH.cons (o := { dst := some 37, op := _, type := _, pos := _, after := _, guard := _ }) rfl (fun K hK => ?_) AllReadyH.nil)
                refine step_ap rfl ?_
                refine wp_app _ _ rfl (w.heap.size + 1) _ (l.take k) ([a]) _ rfl (fun x hx => OA.out x (List.mem_of_mem_take hx)) HOW.out rfl (src_one HL6.out HO.out) (by have := HLL.out; have := HN.out; rw [List.length_take]; simp only [List.length_cons, List.length_nil]; omega) HX.out.lt ?_
                intro v' w' hown' hgrow'
                have hge := own_geS HOW.out
                have hbg := bgrown HBX.out hgrow' (fun k hk => by have := (hge k hk).1; omega)
                have hxg := HX.out.grown hgrow' (fun e => by have := (hge _ e.symm).1; omega)
                refine hK.out _ _ (HRO.out _ hxg) (fun hHeld => ?_)
                clear hK K
                try simp only [Act.put, List.setIfInBounds_toArray, List.set_cons_zero, List.set_cons_succ]
                replace HX := Lib.hid hxg
                replace HBX := Lib.hid hbg
                clear HL6
                have HOW := Lib.hid hown'
                clear hown' hgrow' hbg hge hxg
                rename World => Wc
                refine wpAnyH_ready (rs := [11]) (by kernel_rfl) (by simp) (AllReadyH.cons (o := { dst := some 41, op := _, type := _, pos := _, after := _, guard := _ }) rfl (fun K hK => ?_) AllReadyH.nil)
                refine step_ap rfl ?_
                refine wp_app _ _ rfl (w.heap.size + 1) _ (l.take k ++ [a]) (l.drop k) _ rfl (fun x hx => (List.mem_append.1 hx).elim (fun h => OA.out x (List.mem_of_mem_take h)) (fun h => by rw [List.mem_singleton] at h; rw [h]; exact HO.out)) HOW.out rfl (HSD.out _ HBX.out) (by have := HLL.out; have := HN.out; rw [List.length_append, List.length_take, List.length_drop]; simp only [List.length_cons, List.length_nil]; omega) HX.out.lt ?_
                intro v' w' hown' hgrow'
                have hge := own_geS HOW.out
                have hbg := bgrown HBX.out hgrow' (fun k hk => by have := (hge k hk).1; omega)
                have hxg := HX.out.grown hgrow' (fun e => by have := (hge _ e.symm).1; omega)
                refine hK.out _ _ (HRO.out _ hxg) (fun hHeld => ?_)
                clear hK K
                try simp only [Act.put, List.setIfInBounds_toArray, List.set_cons_zero, List.set_cons_succ]
                replace HX := Lib.hid hxg
                replace HBX := Lib.hid hbg
                skip
                have HOW := Lib.hid hown'
                clear hown' hgrow' hbg hge hxg
                rename World => Wc
                refine wpAnyH_take (i := 12) (oi := { dst := some 4, op := _, type := _, pos := _, after := _, guard := _ }) (v := ?v509) rfl (by kernel_rfl) (by kernel_rfl) (by kernel_rfl) (fun _ _ _ h => h) (Or.inl ⟨by rfl, ?y509⟩) (by assumption) ?r509
                case y509 => (intro w hSw; go_simp; try with_reducible rfl)
                try simp only [Act.put, List.setIfInBounds_toArray, List.set_cons_zero, List.set_cons_succ]
                refine wpAnyH_done (by kernel_rfl) ?_ _
                go_wp2_with fail
                go_ret
                exact ⟨_, rfl, HBX.out, by rw [HADD.out]; exact own_mono (by simpa using HOW.out) (by have := HBS.out; omega)⟩
            · go_simp
              refine hK.out _ _ (HRO.out _ (HX.out.alloc _)) (fun hHeld => ?_)
              clear hK K
              try simp only [Act.put, List.setIfInBounds_toArray, List.set_cons_zero, List.set_cons_succ]
              have HL6 := Lib.hid (ObjAt.made Wc (adC a).toArray 37)
              replace HX := Lib.hid (HX.out.below (bbS Wc (.cells (adC a).toArray 37)) HX.out.lt)
              replace HBX := Lib.hid (bstep HBX.out (bbS Wc (.cells (adC a).toArray 37)))
              generalize World.alloc Wc (.cells (adC a).toArray _) = Wn at HX HBX HL6  hHeld ⊢
              generalize Wc.heap.size = m6 at HL6  ⊢
              rename World => Wc
              refine wpAnyH_ready (rs := [0]) (by kernel_rfl) (by simp) (AllReadyH.cons (o := { dst := some 30, op := _, type := _, pos := _, after := _, guard := _ }) rfl (fun K hK => ?_) AllReadyH.nil)
              go_simp
              refine hK.out _ _ (HRO.out _ (HX.out.alloc _)) (fun hHeld => ?_)
              clear hK K
              try simp only [Act.put, List.setIfInBounds_toArray, List.set_cons_zero, List.set_cons_succ]
              have HOW := Lib.hid (show (Wc.alloc (.cells #[] 37)).ownsRow (w.heap.size + 1) 37 17 (.slice (some ⟨Wc.heap.size, 0, none⟩) 0 0) ([] : List AD).length (adsC []) from World.ownsRow_lit Wc #[] 0 HX.out.lt (by unfold maxLen; omega) (by simp))
              have HM := Lib.hid (show m6 ≠ Wc.heap.size from by have := HL6.out.lt; omega)
              replace HX := Lib.hid (HX.out.below (bbS Wc (.cells #[] 37)) HX.out.lt)
              replace HBX := Lib.hid (bstep HBX.out (bbS Wc (.cells #[] 37)))
              replace HL6 := Lib.hid (HL6.out.below (bbS Wc (.cells #[] 37)) HL6.out.lt)
              generalize World.alloc Wc (.cells #[] _) = Wn at HX HBX HOW HL6 hHeld ⊢
              generalize Wc.heap.size = g0 at HOW HM ⊢
              rename World => Wc
              refine wpAnyH_ready (rs := [4]) (by kernel_rfl) (by simp) (AllReadyH.cons (o := { dst := some 34, op := _, type := _, pos := _, after := _, guard := _ }) rfl (fun K hK => ?_) AllReadyH.nil)
              refine step_ap rfl ?_
              refine wp_app _ _ rfl (w.heap.size + 1) _ ([]) (l.take k) _ rfl (fun x hx => by cases hx) HOW.out rfl (HST.out _ HBX.out) (by have := HLL.out; have := HN.out; rw [List.length_take]; simp only [List.length_nil]; omega) HX.out.lt ?_
              intro v' w' hown' hgrow'
              have hge := own_geS HOW.out
              have hbg := bgrown HBX.out hgrow' (fun k hk => by have := (hge k hk).1; omega)
              have hxg := HX.out.grown hgrow' (fun e => by have := (hge _ e.symm).1; omega)
              refine hK.out _ _ (HRO.out _ hxg) (fun hHeld => ?_)
              clear hK K
              try simp only [Act.put, List.setIfInBounds_toArray, List.set_cons_zero, List.set_cons_succ]
              replace HX := Lib.hid hxg
              replace HL6 := Lib.hid (HL6.out.grown hgrow' (fun e => HM.out (by have e2 : some m6 = some g0 := e; cases e2; rfl)))
              replace HBX := Lib.hid hbg
              rw [List.nil_append] at hown'
              have HOW := Lib.hid hown'
              clear hown' hgrow' hbg hge hxg
              rename World => Wc
              refine wpAnyH_ready (rs := [7]) (by kernel_rfl) (by simp) (AllReadyH.cons (o := { dst := some 37, op := _, type := _, pos := _, after := _, guard := _ }) rfl (fun K hK => ?_) AllReadyH.nil)
              refine step_ap rfl ?_
              refine wp_app _ _ rfl (w.heap.size + 1) _ (l.take k) ([a]) _ rfl (fun x hx => OA.out x (List.mem_of_mem_take hx)) HOW.out rfl (src_one HL6.out HO.out) (by have := HLL.out; have := HN.out; rw [List.length_take]; simp only [List.length_cons, List.length_nil]; omega) HX.out.lt ?_
              intro v' w' hown' hgrow'
              have hge := own_geS HOW.out
              have hbg := bgrown HBX.out hgrow' (fun k hk => by have := (hge k hk).1; omega)
              have hxg := HX.out.grown hgrow' (fun e => by have := (hge _ e.symm).1; omega)
              refine hK.out _ _ (HRO.out _ hxg) (fun hHeld => ?_)
              clear hK K
              try simp only [Act.put, List.setIfInBounds_toArray, List.set_cons_zero, List.set_cons_succ]
              replace HX := Lib.hid hxg
              replace HBX := Lib.hid hbg
              clear HL6
              have HOW := Lib.hid hown'
              clear hown' hgrow' hbg hge hxg
              rename World => Wc
              refine wpAnyH_ready (rs := [11]) (by kernel_rfl) (by simp) (AllReadyH.cons (o := { dst := some 41, op := _, type := _, pos := _, after := _, guard := _ }) rfl (fun K hK => ?_) AllReadyH.nil)
              refine step_ap rfl ?_
              refine wp_app _ _ rfl (w.heap.size + 1) _ (l.take k ++ [a]) (l.drop k) _ rfl (fun x hx => (List.mem_append.1 hx).elim (fun h => OA.out x (List.mem_of_mem_take h)) (fun h => by rw [List.mem_singleton] at h; rw [h]; exact HO.out)) HOW.out rfl (HSD.out _ HBX.out) (by have := HLL.out; have := HN.out; rw [List.length_append, List.length_take, List.length_drop]; simp only [List.length_cons, List.length_nil]; omega) HX.out.lt ?_
              intro v' w' hown' hgrow'
              have hge := own_geS HOW.out
              have hbg := bgrown HBX.out hgrow' (fun k hk => by have := (hge k hk).1; omega)
              have hxg := HX.out.grown hgrow' (fun e => by have := (hge _ e.symm).1; omega)
              refine hK.out _ _ (HRO.out _ hxg) (fun hHeld => ?_)
              clear hK K
              try simp only [Act.put, List.setIfInBounds_toArray, List.set_cons_zero, List.set_cons_succ]
              replace HX := Lib.hid hxg
              replace HBX := Lib.hid hbg
              skip
              have HOW := Lib.hid hown'
              clear hown' hgrow' hbg hge hxg
              rename World => Wc
              refine wpAnyH_take (i := 12) (oi := { dst := some 4, op := _, type := _, pos := _, after := _, guard := _ }) (v := ?v510) rfl (by kernel_rfl) (by kernel_rfl) (by kernel_rfl) (fun _ _ _ h => h) (Or.inl ⟨by rfl, ?y510⟩) (by assumption) ?r510
              case y510 => (intro w hSw; go_simp; try with_reducible rfl)
              try simp only [Act.put, List.setIfInBounds_toArray, List.set_cons_zero, List.set_cons_succ]
              refine wpAnyH_done (by kernel_rfl) ?_ _
              go_wp2_with fail
              go_ret
              exact ⟨_, rfl, HBX.out, by rw [HADD.out]; exact own_mono (by simpa using HOW.out) (by have := HBS.out; omega)⟩

end Go.Proofs.Ytokpogoblnhihaa
