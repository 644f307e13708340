/-
  Texts joined: SrB, SrC.
-/
import Derived.Test.YtacnhelnpngkgaaMg30
import Derived.Deep.RegionHeld3
import Derived.Laws.AppendOwnNone
/-
  The contract of the document's Add of layer 11.
-/
namespace Go.Proofs.Ytacnhelnpngkgaa
open Go.RowKit
set_option linter.unusedVariables false
set_option linter.unusedSimpArgs false
attribute [local go_sem ↓] ld_addr adsLit_eq
attribute [local go_sem] ldr_addr row?_drewN_eq row?_drew_eq


theorem adsC_length' : ∀ {l : List AD}, (∀ a ∈ l, adOk a) → (adsC l).length = l.length * 17
  | [], _ => rfl
  | a :: r, h => by
    have e : adsC (a :: r) = adC a ++ adsC r := by unfold adsC; simp
    rw [e, List.length_append, adC_length (h a (by simp)), adsC_length' (fun x hx => h x (by simp [hx]))]
    simp only [List.length_cons]; omega
theorem adsC_append (l m : List AD) : adsC (l ++ m) = adsC l ++ adsC m := by unfold adsC; simp
theorem adsC_one (l : List AD) : ∀ u ∈ adsC l, u.oneCell' = true := by
  intro u hu
  unfold adsC at hu
  simp only [List.mem_flatten, List.mem_map] at hu
  obtain ⟨c, ⟨a, _, rfl⟩, hu⟩ := hu
  exact addrC_one _ _ u hu
/-- The cells of addresses that lie in a row. -/
theorem ads_cells {w : World} {b : Nat} : ∀ {l : List AD} {o : Nat}, (∀ a ∈ l, adOk a) → AdsAt w b o l → ∀ j u, (adsC l)[j]? = some u → w.cell? ⟨b, o + j, none⟩ = some u
  | [], _, _, _, j, u, h => by simp [adsC] at h
  | a :: r, o, hok, hA, j, u, h => by
    have e : adsC (a :: r) = adC a ++ adsC r := by unfold adsC; simp
    have l1 := adC_length (hok a (by simp))
    rw [e] at h
    by_cases hj : j < 17
    · rw [List.getElem?_append_left (by omega)] at h
      have hr := hA 0 (by simp)
      simp only [List.getElem_cons_zero, Nat.zero_mul, Nat.add_zero] at hr
      exact (rangeAt_of_row? hr).1 j u h
    · rw [List.getElem?_append_right (by omega), l1] at h
      have := ads_cells (w := w) (b := b) (l := r) (o := o + 17) (fun x hx => hok x (by simp [hx])) (fun i hi => by
        have := hA (i + 1) (by simpa using hi)
        rw [show o + (i + 1) * 17 = o + 17 + i * 17 by omega] at this
        simpa using this) (j - 17) u h
      rw [show o + 17 + (j - 17) = o + j by omega] at this
      exact this
/-- What is appended: nothing, or addresses that lie somewhere. -/
def SrcAt (w : World) (sv : Value) (zs : List AD) : Prop := (∀ a ∈ zs, adOk a) ∧ ((sv = .slice none 0 0 ∧ zs = []) ∨ ∃ ad c, sv = .slice (some ad) zs.length c ∧ ∀ j u, (adsC zs)[j]? = some u → w.cell? (ad.add j) = some u)
theorem wp_app {w : World} {o : Oper} {a : Act} {K : Act → World → Prop} {Q : Exit → Act → World → Prop} (s x : Operand) (ho : o.op = .call { callee := .builtin .append, args := #[s, x], argTypes := #[25, 25] })
    (base : Nat) (v : Value) (ys zs : List AD) (sv : Value) (hs : a.eval s = v) (hy : ∀ a ∈ ys, adOk a) (hown : w.ownsRow base 24 17 v ys.length (adsC ys)) (hx : a.eval x = sv) (hz : SrcAt w sv zs) (hn : ys.length + zs.length ≤ 1000000000000) (hbase : base ≤ w.heap.size)
    (h : ∀ v' w', w'.ownsRow base 24 17 v' (ys ++ zs).length (adsC (ys ++ zs)) → w.grownBy w' v.ownBlock → K (a.put o.dst v') w') : o.wp Try.prog a w K Q := by
  obtain ⟨i0, hi0, hz0, hz1, hz2⟩ := info_parts info_ad
  obtain ⟨ok, hz⟩ := hz
  rcases hz with ⟨rfl, rfl⟩ | ⟨ad, c, rfl, hc⟩
  · have hrun := run_append_owned_none (P := Try.prog) (w := w) base 25 o.type 24 i0 17 Try.underlying25 hi0 v _ _ hown
    unfold Oper.wp
    simp [execOp, ho, resolve, invoke, builtin, hs, hx, hrun, Result.andThen]
    exact h _ _ (by simpa using hown) ⟨rfl, rfl, rfl, Nat.le_refl _, fun _ _ _ => rfl⟩
  · refine wp_append_own w s x 25 ho base 24 i0 (.agg #[.bool false, .int .u8 0, .int .u8 0, .int .u8 0, .int .u8 0, .int .u8 0, .int .u8 0, .int .u8 0, .int .u8 0, .int .u8 0, .int .u8 0, .int .u8 0, .int .u8 0, .int .u8 0, .int .u8 0, .int .u8 0, .int .u8 0]) 17 17 Try.underlying25 hi0 hz0 hz1 hz2 rfl (by decide) v ys.length (adsC ys) hs hown ad zs.length c (adsC zs) hx (adsC_length' ok) hc (adsC_one zs) (by unfold maxLen; omega) (by omega) hbase ?_
    intro v' w' h1 h2 _
    exact h v' w' (by rw [List.length_append, adsC_append]; exact h1) h2
theorem step_ap {ops : Array Oper} {o : Oper} {a : Act} {w : World} {K : Act → World → Prop} {Q : Exit → Act → World → Prop} {E : Prop} (hg : o.guard = none) (h : Oper.wp Try.prog o a w K Q) : if Region.wanted o (yielded ops a.tmps) = true then Oper.wp Try.prog o a w K Q else E := by
  rw [if_pos (by simp [Region.wanted, hg])]; exact h

theorem own_belowS {w w' : World} {base n : Nat} {v : Value} {xs : List Value} {e : TypeId} {z : Nat} (h : w.ownsRow base e z v n xs) (hb : Below w.heap.size w w') : w'.ownsRow base e z v n xs := by
  obtain ⟨h1, h2 | ⟨g, cap, cur, e1, e2, e3, e4⟩⟩ := h
  · exact ⟨h1, .inl h2⟩
  · exact ⟨h1, .inr ⟨g, cap, cur, e1, e2, (hb.block g (Array.getElem?_eq_some_iff.1 e3).1).trans e3, e4⟩⟩
theorem add_lit (b o j : Nat) : (⟨b, o, none⟩ : Addr).add j = ⟨b, o + j, none⟩ := by unfold Addr.add; split <;> simp_all
end Go.Proofs.Ytacnhelnpngkgaa

/-
  The contracts of the document's Of, Pick and Or of layer 11.
-/
namespace Go.Proofs.Ytacnhelnpngkgaa
open Go.RowKit
set_option linter.unusedVariables false
set_option linter.unusedSimpArgs false
attribute [local go_sem ↓] ld_addr adsLit_eq
attribute [local go_sem] ldr_addr row?_drewN_eq row?_drew_eq


/-- A set of one's own. -/
def OwnL (w : World) (base : Nat) (v : Value) (l : List AD) : Prop := w.ownsRow base 24 17 v l.length (adsC l)
theorem OwnL.below {w w' : World} {base : Nat} {v : Value} {l : List AD} (h : OwnL w base v l) (hb : Below w.heap.size w w') : OwnL w' base v l := own_belowS h hb
theorem OwnL.ads {w : World} {base : Nat} {v : Value} {l : List AD} (h : OwnL w base v l) (ho : ∀ a ∈ l, adOk a) : AdsT w v l := ⟨Ads.own ho h, AdT.own h⟩
theorem src_of {w : World} {v : Value} {l : List AD} (ha : Ads w v l) (hp : ∀ n c, v = .slice none n c → c = 0) : SrcAt w v l := by
  refine ⟨ha.ok, ?_⟩
  obtain ⟨p, cap, e, h2, h3⟩ := ha.len
  by_cases hl : l = []
  · subst hl
    cases p with
    | none => have := hp _ _ e; subst this; exact Or.inl ⟨e, rfl⟩
    | some a => exact Or.inr ⟨a, cap, e, fun j u hu => by simp [adsC] at hu⟩
  · obtain ⟨b, o, c, e1, _, _, _, hA⟩ := ha.parts hl
    exact Or.inr ⟨⟨b, o, none⟩, c, e1, fun j u hu => by rw [add_lit]; exact ads_cells ha.ok hA j u hu⟩
end Go.Proofs.Ytacnhelnpngkgaa

