/-
  Texts joined: TlF, SrA, Cmp, PureSet.
-/
import Derived.Test.YtacnhelnpngkgaaMg27
import Derived.Test.YtacnhelnpngkgaaTell
import Derived.Test.YtacnhelnpngkgaaMg07
import Derived.Lib.BytesEntry
import Derived.BigQuiet
import Derived.Deep.QuietTactic
import Derived.WalkLawsBesides
import Derived.LoopTactic
import Derived.Test.YtacnhelnpngkgaaMg00
import Derived.Lib.Bytealg
/-
  The law's own copies of addresses, somewhat cut.
-/
namespace Go.Proofs.Ytacnhelnpngkgaa
open Go.RowKit
set_option linter.unusedVariables false
attribute [local go_sem ↓] ld_addr st_addr bld_addr adsLit_eq
attribute [local go_sem] ldr_addr str_addr

theorem adsC_take {l : List AD} {k : Nat} (h : k < l.length) : adsC (l.take (k + 1)) = adsC (l.take k) ++ adC l[k] := by
  unfold adsC
  rw [List.take_succ_eq_append_getElem h, List.map_append, List.flatten_append]
  simp
theorem own_len {w : World} {base : Nat} {e : TypeId} {size n k : Nat} {v : Value} {xs : List Value} (h : w.ownsRow base e size v n xs) (hk : n = k) : w.ownsRow base e size v k xs := by subst hk; exact h
set_option maxRecDepth 100000 in
set_option maxHeartbeats 2000000 in
theorem laddrs_any (v : Value) (l : List AD) (n : Nat) (hn : n ≤ 1000) (w : World) (ha : Ads w v l) : Calls Try.prog 18 #[v, .int .i64 n] w fun x w' => ∃ v', x = .returned v' ∧ Below w.heap.size w w' ∧ AdsT w' v' (l.take n) := by
  obtain ⟨p, cap, rfl, hl1, hl2⟩ := ha.len
  obtain ⟨i0, hi0, hz0, hz1, hz2⟩ := info_parts info_ad
  have HRA : Hid (l ≠ [] → ∃ b o, p = some ⟨b, o, none⟩ ∧ b < w.heap.size ∧ AdsAt w b o l) := Lib.hid fun hne => by
    obtain ⟨b, o, cap', e, _, _, h3, h4⟩ := ha.parts hne
    simp only [Value.slice.injEq] at e
    exact ⟨b, o, e.1, h3, h4⟩
  have OA := Lib.hid ha.ok
  obtain ⟨q, hq⟩ : ∃ q, q = l.length := ⟨_, rfl⟩
  have HQ := Lib.hid hq
  have hmx : q ≤ maxLen := by omega
  unfold maxLen at hmx
  rw [← hq]
  clear ha hl1 hl2 hq
  go_enter Try.func18, Try.ntmps18
  go_wp2_with fail
  go_loopw [5, 6] (fun u i wr => ∃ k : Nat, k ≤ q ∧ k ≤ n ∧ i = .int .i64 k ∧ wr.ownsRow w.heap.size 24 17 u k (adsC (l.take k)) ∧ Hid (Below w.heap.size w wr)) (fun _ i _ => n - (intOf i).toNat)
  case atStart => exact ⟨0, by omega, by omega, rfl, World.ownsRow_lit w #[] 0 (Nat.le_refl _) (by unfold maxLen; omega) (by simp), Lib.hid ((Below.refl _ _).alloc (Nat.le_refl _) _)⟩
  case round =>
    obtain ⟨k, hkq, hkn, rfl, hown, HB⟩ := hrel
    have HO := Lib.hid hown
    clear hown
    by_cases h1 : k < q
    · have t1 : decide ((k : Int) < (q : Int)) = true := decide_eq_true (by omega)
      by_cases h2 : k < n
      · have t2 : decide ((k : Int) < (n : Int)) = true := decide_eq_true (by omega)
        have hk1 : (k : Int) < (q : Int) := by omega
        have g1 : k < l.length := by rw [← HQ.out]; exact h1
        obtain ⟨b, o, rfl, hbl, RA⟩ := HRA.out (fun e => by rw [e] at g1; exact absurd g1 (by simp))
        have r1 := row?_below (RA k g1) hbl HB.out
        have hw1 : IntKind.i64.wrap ((k : Int) + 1) = (k : Int) + 1 := by simp only [IntKind.wrap_i64]; omega
        have hok := OA.out _ (List.getElem_mem g1)
        have HS := Lib.hid (adsC_take g1)
        have HL := Lib.hid (adC_length hok)
        have hlit := adsLit_run _ hok
        have H1 : Hid (∀ u ∈ adC l[k], u.oneCell' = true) := Lib.hid (addrC_one _ _)
        generalize adC l[k] = A at *
        have hown := HO.out
        have hz := HB.out.size
        have hl17 := HL.out
        have h1c := H1.out
        clear RA hok
        go_wp2_with (at_builtin; refine wpList_append_own _ rfl _ _ 25 rfl w.heap.size 24 i0 (.agg #[.bool false, .int .u8 0, .int .u8 0, .int .u8 0, .int .u8 0, .int .u8 0, .int .u8 0, .int .u8 0, .int .u8 0, .int .u8 0, .int .u8 0, .int .u8 0, .int .u8 0, .int .u8 0, .int .u8 0, .int .u8 0, .int .u8 0]) 17 17 Try.underlying25 hi0 hz0 hz1 hz2 rfl (by decide) _ _ _ rfl (hown.alloc _) ⟨wr.heap.size, 0, none⟩ 1 1 A rfl hl17 (World.news_of_block (heap_alloc_new wr _)) h1c (by unfold maxLen; omega) (by omega) (by simp; omega) ?_; intro v' w2 hown' hgrow hnil; have Hown := Lib.hid hown'; have Hgrow := Lib.hid hgrow; clear hown' hgrow hnil hown hz hl17 h1c)
        have hv := HO.out.2
        have H2 : Hid (Below w.heap.size w w2) := Lib.hid (HB.out.alloc HB.out.size _ |>.grown Hgrow.out (by have := HB.out.size; simp; omega) (fun q hq => by
          rcases hv with ⟨e1, _⟩ | ⟨g, cap, cur, e1, e2, _⟩
          · subst e1; cases hq
          · subst e1; cases hq; exact e2))
        clear hv
        go_roundw
        case rel => exact ⟨k + 1, by omega, by omega, by go_num, by rw [HS.out]; exact Hown.out, H2⟩
        case measure => simp [intOf]; omega
      · have t2 : ¬ (k : Int) < (n : Int) := by omega
        have hk1 : (k : Int) < (q : Int) := by omega
        have hkn' : n = k := by omega
        have HE := Lib.hid (show (l.take k).length = k by rw [List.length_take, ← HQ.out]; omega)
        have HK := Lib.hid hkn'
        clear h2 hkn'
        go_wp2
        go_ret
        exact ⟨_, rfl, HB.out, by rw [HK.out]; exact ⟨Ads.own (fun a h => OA.out a (List.mem_of_mem_take h)) (own_len HO.out HE.out.symm), AdT.own HO.out⟩⟩
    · have t1 : ¬ (k : Int) < (q : Int) := by omega
      have HE := Lib.hid (show l.take n = l.take k ∧ (l.take k).length = k by
        have hq := HQ.out
        refine ⟨?_, by rw [List.length_take]; omega⟩
        rw [List.take_of_length_le (by omega), List.take_of_length_le (by omega)])
      clear h1
      go_wp2
      go_ret
      exact ⟨_, rfl, HB.out, by rw [HE.out.1]; exact ⟨Ads.own (fun a h => OA.out a (List.mem_of_mem_take h)) (own_len HO.out HE.out.2.symm), AdT.own HO.out⟩⟩
end Go.Proofs.Ytacnhelnpngkgaa

/-
  The contracts of the document's Same and Has of layer 11.
-/
namespace Go.Proofs.Ytacnhelnpngkgaa
open Go.RowKit
set_option linter.unusedVariables false
set_option linter.unusedSimpArgs false
attribute [local go_sem ↓] ld_addr
attribute [local go_sem] ldr_addr row?_drewN_eq row?_drew_eq


end Go.Proofs.Ytacnhelnpngkgaa

/-
  Which of two addresses stands first: the program's answer and the document's.
-/
namespace Go.Proofs.Ytacnhelnpngkgaa
open Go.RowKit
set_option linter.unusedVariables false

/-- Two boxed addresses. -/
structure Two (w W : World) (v v' : Bool) (l l' : List UInt8) : Prop where
  c0 : W.cell? ⟨w.heap.size, 0, none⟩ = some (.bool v)
  d0 : W.cell? ⟨w.heap.size + 1, 0, none⟩ = some (.bool v')
  r : RowAt W w.heap.size 1 l
  s : RowAt W (w.heap.size + 1) 1 l'
  b : Below w.heap.size w W
theorem Two.made (w : World) (v v' : Bool) (l l' : List UInt8) : Two w ((w.alloc (.cells (addrC v l).toArray 24)).alloc (.cells (addrC v' l').toArray 24)) v v' l l' := by
  have h0 := (ObjAt.made w (addrC v l).toArray 24).alloc (.cells (addrC v' l').toArray 24)
  have h1 := ObjAt.made (w.alloc (.cells (addrC v l).toArray 24)) (addrC v' l').toArray 24
  rw [show (w.alloc (.cells (addrC v l).toArray 24)).heap.size = w.heap.size + 1 by simp] at h1
  have rr : ∀ (m : Bool) (x : List UInt8) (b : Nat) (W : World), ObjAt W b (addrC m x).toArray 24 → RowAt W b 1 x := fun m x b W h i hi => by
    rw [h.cell, List.getElem?_toArray, Nat.add_comm]
    show (Value.bool m :: B8 x)[i + 1]? = _
    rw [List.getElem?_cons_succ]
    unfold B8
    rw [List.getElem?_map, List.getElem?_eq_getElem hi]
    rfl
  exact ⟨h0.cell 0, h1.cell 0, rr _ _ _ _ h0, rr _ _ _ _ h1, ((Below.refl _ _).alloc (Nat.le_refl _) _).alloc (by simp) _⟩

theorem compare_at {l l' : List UInt8} {k : Nat} (hk : k < l.length) (hk' : k < l'.length) :
    Lib.compareBytes (l.drop k) (l'.drop k) = if l[k] < l'[k] then -1 else if l'[k] < l[k] then 1 else Lib.compareBytes (l.drop (k + 1)) (l'.drop (k + 1)) := by
  rw [List.drop_eq_getElem_cons hk, List.drop_eq_getElem_cons hk', Lib.compareBytes]
theorem u8_lt {a b : UInt8} : a < b ↔ (a.toNat : Int) < (b.toNat : Int) := by
  rw [UInt8.lt_iff_toNat_lt]; omega
/-- What the loop knows. -/
def CmS (l l' : List UInt8) (k : Nat) : Prop := Lib.compareBytes l l' = Lib.compareBytes (l.drop k) (l'.drop k)
theorem CmS.less {l l' : List UInt8} {k : Nat} (h : CmS l l' k) (hk : k < l.length) (hk' : k < l'.length) (hx : ((l[k]).toNat : Int) < ((l'[k]).toNat : Int)) : Lib.compareBytes l l' = -1 := by
  rw [h, compare_at hk hk', if_pos (u8_lt.2 hx)]
theorem CmS.more {l l' : List UInt8} {k : Nat} (h : CmS l l' k) (hk : k < l.length) (hk' : k < l'.length) (hy : ¬ ((l[k]).toNat : Int) < ((l'[k]).toNat : Int)) (hx : ((l'[k]).toNat : Int) < ((l[k]).toNat : Int)) : Lib.compareBytes l l' = 1 := by
  rw [h, compare_at hk hk', if_neg (fun h => hy (u8_lt.1 h)), if_pos (u8_lt.2 hx)]
theorem CmS.same {l l' : List UInt8} {k : Nat} (h : CmS l l' k) (hk : k < l.length) (hk' : k < l'.length) (hy : ¬ ((l[k]).toNat : Int) < ((l'[k]).toNat : Int)) (hx : ¬ ((l'[k]).toNat : Int) < ((l[k]).toNat : Int)) : CmS l l' (k + 1) := by
  unfold CmS; rw [h, compare_at hk hk', if_neg (fun h => hy (u8_lt.1 h)), if_neg (fun h => hx (u8_lt.1 h))]

end Go.Proofs.Ytacnhelnpngkgaa

/-
  Sets as lists in order, plain: a list as a set, and that what is in order and has the same elements is the same; the order of addresses.
-/
namespace Go.Proofs.Ytacnhelnpngkgaa
set_option linter.unusedVariables false
set_option linter.unusedSectionVars false

/-- An order by a test: none is less than itself, what is less goes on, and of two good ones that are not the same one is less. -/
structure Ord9 {α : Type} (lt : α → α → Bool) (good : α → Bool) : Prop where
  irr : ∀ a, lt a a = false
  trans : ∀ a b c, lt a b = true → lt b c = true → lt a c = true
  tot : ∀ a b, good a = true → good b = true → a ≠ b → lt a b = true ∨ lt b a = true
def Sorted {α : Type} (lt : α → α → Bool) (l : List α) : Prop := l.Pairwise (fun x y => lt x y = true)
variable {α : Type} [DecidableEq α] {lt : α → α → Bool} {good : α → Bool}
theorem Ord9.anti (o : Ord9 lt good) {a b : α} (h : lt a b = true) : lt b a = false := by
  cases h2 : lt b a with
  | false => rfl
  | true => have := o.trans a b a h h2; rw [o.irr] at this; exact this.symm
theorem Sorted.ext (o : Ord9 lt good) : ∀ {l m : List α}, Sorted lt l → Sorted lt m → (∀ x, x ∈ l ↔ x ∈ m) → l = m
  | [], [], _, _, _ => rfl
  | [], b :: m, _, _, h => absurd ((h b).2 (by simp)) (by simp)
  | a :: l, [], _, _, h => absurd ((h a).1 (by simp)) (by simp)
  | a :: l, b :: m, hl, hm, h => by
    obtain ⟨h1, h2⟩ := List.pairwise_cons.1 hl
    obtain ⟨k1, k2⟩ := List.pairwise_cons.1 hm
    have e : a = b := by
      rcases List.mem_cons.1 ((h a).1 (by simp)) with e | ha
      · exact e
      rcases List.mem_cons.1 ((h b).2 (by simp)) with e | hb
      · exact e.symm
      have x := k1 a ha
      have y := h1 b hb
      rw [o.anti x] at y; cases y
    subst e
    rw [Sorted.ext o h2 k2 (fun x => ?_)]
    have hx := h x
    simp only [List.mem_cons] at hx
    constructor
    · intro hx1
      rcases hx.1 (Or.inr hx1) with e | h3
      · subst e; have := h1 _ hx1; rw [o.irr] at this; cases this
      · exact h3
    · intro hx1
      rcases hx.2 (Or.inr hx1) with e | h3
      · subst e; have := k1 _ hx1; rw [o.irr] at this; cases this
      · exact h3
end Go.Proofs.Ytacnhelnpngkgaa

