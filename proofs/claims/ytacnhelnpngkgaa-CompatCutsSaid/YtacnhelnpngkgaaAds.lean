/-
  Lists of addresses in memory, and the document's own comparison of two.
-/
import Derived.Test.YtacnhelnpngkgaaEqA
import Derived.Test.YtacnhelnpngkgaaMg01
import Derived.Deep.RegionHeld3
import Derived.Deep.Cut
import Derived.BigQuiet
import Derived.LoopTactic
import Derived.Deep.QuietTactic
namespace Go.Proofs.Ytacnhelnpngkgaa
open Go.RowKit
set_option linter.unusedVariables false

/-- An address as plain data: whether it is of IPv6, and its sixteen bytes. -/
abbrev AD := Bool × List UInt8
def adOk (a : AD) : Prop := a.2.length = 16
def adC (a : AD) : List Value := addrC a.1 a.2
theorem adC_length {a : AD} (h : adOk a) : (adC a).length = 17 := by unfold adC; rw [addrC_length, h]
/-- A slice of addresses. -/
def Ads (w : World) (v : Value) (l : List AD) : Prop :=
  ∃ (p : Option Addr) (cap : Nat), v = .slice p l.length cap ∧ l.length ≤ cap ∧ cap ≤ maxLen ∧ (∀ a ∈ l, adOk a) ∧
    (l ≠ [] → ∃ b o, p = some ⟨b, o, none⟩ ∧ b < w.heap.size ∧ ∀ i (h : i < l.length), row? w b (o + i * 17) 17 = some (adC l[i]))
theorem Ads.below {w w' : World} {v : Value} {l : List AD} (h : Ads w v l) (hb : Below w.heap.size w w') : Ads w' v l := by
  obtain ⟨p, cap, h1, h2, h3, h4, h5⟩ := h
  refine ⟨p, cap, h1, h2, h3, h4, fun hn => ?_⟩
  obtain ⟨b, o, e1, e2, e3⟩ := h5 hn
  exact ⟨b, o, e1, Nat.lt_of_lt_of_le e2 hb.size, fun i h => row?_below (e3 i h) e2 hb⟩
theorem Ads.nil (w : World) : Ads w (.slice none 0 0) [] := ⟨none, 0, rfl, Nat.le_refl _, by unfold maxLen; omega, fun a h => (by cases h), fun h => absurd rfl h⟩
/-- Where its addresses lie. -/
def AdsAt (w : World) (b o : Nat) (l : List AD) : Prop := ∀ i (h : i < l.length), row? w b (o + i * 17) 17 = some (adC l[i])
theorem Ads.parts {w : World} {v : Value} {l : List AD} (h : Ads w v l) (hn : l ≠ []) : ∃ b o cap, v = .slice (some ⟨b, o, none⟩) l.length cap ∧ l.length ≤ cap ∧ cap ≤ maxLen ∧ b < w.heap.size ∧ AdsAt w b o l := by
  obtain ⟨p, cap, h1, h2, h3, h4, h5⟩ := h
  obtain ⟨b, o, rfl, e2, e3⟩ := h5 hn
  exact ⟨b, o, cap, h1, h2, h3, e2, e3⟩
theorem Ads.ok {w : World} {v : Value} {l : List AD} (h : Ads w v l) : ∀ a ∈ l, adOk a := by obtain ⟨p, cap, h1, h2, h3, h4, h5⟩ := h; exact h4
theorem Ads.len {w : World} {v : Value} {l : List AD} (h : Ads w v l) : ∃ p cap, v = .slice p l.length cap ∧ l.length ≤ cap ∧ cap ≤ maxLen := by obtain ⟨p, cap, h1, h2, h3, h4, h5⟩ := h; exact ⟨p, cap, h1, h2, h3⟩
/-- From a shape. -/
def adOf (x : Bool × (List UInt8 × Unit)) : AD := (x.1, x.2.1)
theorem Ads.of {w : World} {v : Value} {xs : List (Bool × (List UInt8 × Unit))} (h : sliceS 17 addrS w [v] xs) : Ads w v (xs.map adOf) := by
  rcases h with ⟨h1, h2⟩ | ⟨a, cap, h1, h2, h3, h4, h5⟩
  · simp at h1
    subst h1 h2
    exact Ads.nil w
  · simp at h1
    subst h1
    refine ⟨some a, cap, by simp, by simpa using h2, h3, ?_, fun hn => ?_⟩
    · intro y hy
      obtain ⟨x, hx, rfl⟩ := List.mem_map.1 hy
      obtain ⟨i, hi⟩ := List.getElem?_of_mem hx
      obtain ⟨c, e1, e2, e3⟩ := h5 i x hi
      exact (addrS_cells e3).2
    · have hx : xs ≠ [] := by rintro rfl; exact hn rfl
      obtain ⟨q1, q2⟩ := h4 hx
      obtain ⟨ab, ao, as_⟩ := a
      simp only at q1 q2
      subst q1
      refine ⟨ab, ao, rfl, q2, fun i hi => ?_⟩
      simp at hi
      obtain ⟨c, e1, e2, e3⟩ := h5 i xs[i] (List.getElem?_eq_getElem hi)
      obtain ⟨f1, f2⟩ := addrS_cells e3
      have hc : c = adC (adOf xs[i]) := by rw [f1]; rfl
      rw [List.getElem_map, ← hc]
      have hr : w.rangeAt ab (ao + i * 17) c := fun j v hv => by
        have hj := (List.getElem?_eq_some_iff.1 hv).1
        rw [Nat.add_assoc, e2 j (by omega)]; exact hv
      have := row?_of hr
      rw [e1] at this
      exact this

theorem ret_bool8 {a b : Bool} (h : a = b) : Ending.returned (.bool a) = .returned (.bool b) := by rw [h]
theorem eq_ad (a b : AD) (ha : adOk a) (hb : adOk b) (w : World) : (Op.equalIn 10000 24 (.agg (adC a).toArray) (.agg (adC b).toArray)).run Try.prog w = .ok (decide (a = b)) w := by
  have := eq_addr a.1 b.1 a.2 b.2 ha hb w
  rw [show decide (a = b) = decide (a.1 = b.1 ∧ a.2 = b.2) by
    rw [Bool.eq_iff_iff, decide_eq_true_iff, decide_eq_true_iff, Prod.ext_iff]]
  exact this
theorem row?_drewN_eq (w : World) (b o n k : Nat) : row? (w.drewN k) b o n = row? w b o n := rfl
theorem row?_drew_eq (w : World) (b o n : Nat) : row? w.drew b o n = row? w b o n := rfl
attribute [local go_sem ↓] ld_addr
attribute [local go_sem] ldr_addr row?_drewN_eq row?_drew_eq

set_option maxRecDepth 100000 in
set_option maxHeartbeats 2000000 in
theorem sameAddrs_any (va vb : Value) (la lb : List AD) (w : World) (ha : Ads w va la) (hb : Ads w vb lb) :
    Calls Try.prog 24 #[va, vb] w fun x w' => x = .returned (.bool (decide (la = lb))) ∧ ∃ d, w' = w.drewN d := by
  obtain ⟨pa, ca, rfl, ha1, ha2⟩ := ha.len
  obtain ⟨pb, cb, rfl, hb1, hb2⟩ := hb.len
  by_cases hl : la.length = lb.length
  · by_cases h0 : la.length = 0
    · have e1 : la = [] := List.eq_nil_of_length_eq_zero h0
      have e2 : lb = [] := List.eq_nil_of_length_eq_zero (by omega)
      subst e1 e2
      have hz : ((0 : Int) != 0) = false := rfl
      go_enter Try.func24, Try.ntmps24
      go_wp2_with fail
      go_loop [5] (fun i => i = .int .i64 0) (fun _ => 0)
      case atStart => rfl
      case round =>
        subst hrel
        go_wp2
        go_ret
        exact ⟨rfl, 0, rfl⟩
    · have na : la ≠ [] := fun h => h0 (by rw [h]; rfl)
      have nb : lb ≠ [] := fun h => h0 (by rw [hl, h]; rfl)
      obtain ⟨ba, oa, ca', ea, _, _, _, Ra⟩ := ha.parts na
      obtain ⟨bb, ob, cb', eb, _, _, _, Rb⟩ := hb.parts nb
      simp only [Value.slice.injEq] at ea eb
      obtain ⟨rfl, _, _⟩ := ea
      obtain ⟨rfl, _, _⟩ := eb
      have OA := Lib.hid ha.ok
      have OB := Lib.hid hb.ok
      have RA := Lib.hid Ra
      have RB := Lib.hid Rb
      have HL := Lib.hid hl
      obtain ⟨n, hn⟩ : ∃ n, n = la.length := ⟨_, rfl⟩
      rw [← hn] at hl ha1 h0
      rw [← hl]
      rw [← hn]
      have HN := Lib.hid hn
      have hmx : n ≤ maxLen := Nat.le_trans ha1 ha2
      unfold maxLen at hmx
      clear Ra Rb ha hb na nb hn
      have hz : ((n : Int) != (n : Int)) = false := by simp
      go_enter Try.func24, Try.ntmps24
      go_wp2_with fail
      go_loopw [5] (fun i wr => ∃ k : Nat, k ≤ n ∧ i = .int .i64 k ∧ Hid (la.take k = lb.take k) ∧ ∃ d, wr = w.drewN d) (fun i _ => n - (intOf i).toNat)
      case atStart => exact ⟨0, by omega, rfl, Lib.hid (by simp), 0, rfl⟩
      case round =>
        obtain ⟨k, hk, rfl, HT, d, rfl⟩ := hrel
        by_cases hlt : k < n
        · have g1 : k < la.length := by rw [← HN.out]; exact hlt
          have g2 : k < lb.length := by omega
          have r1 := RA.out k g1
          have r2 := RB.out k g2
          have q := fun w0 => eq_ad la[k] lb[k] (OA.out _ (List.getElem_mem g1)) (OB.out _ (List.getElem_mem g2)) w0
          have hd : decide ((k : Int) < (n : Int)) = true := by simp; omega
          have hw1 : IntKind.i64.wrap ((k : Int) + 1) = (k : Int) + 1 := by simp only [IntKind.wrap_i64]; omega
          have hk1 : (k : Int) < (n : Int) := by omega
          by_cases he : la[k] = lb[k]
          · have HS : Hid (la.take (k + 1) = lb.take (k + 1)) := Lib.hid (by rw [List.take_succ_eq_append_getElem g1, List.take_succ_eq_append_getElem g2, HT.out, he])
            rw [decide_eq_true he] at q
            generalize adC la[k] = A at *
            generalize adC lb[k] = B at *
            clear he g1 g2
            go_upto_region 6 with (fail)
            go_quiet (fail)
            go_wp2
            go_roundw
            case rel => exact ⟨k + 1, by omega, by go_num, HS, _, rfl⟩
            case measure => simp [intOf]; omega
          · have HD := Lib.hid (show decide (la = lb) = false by
              rw [decide_eq_false_iff_not]
              intro e
              apply he
              simp only [e])
            rw [decide_eq_false he] at q
            generalize adC la[k] = A at *
            generalize adC lb[k] = B at *
            clear he g1 g2
            go_upto_region 6 with (fail)
            go_quiet (fail)
            go_wp2
            go_ret
            exact ⟨ret_bool8 (by rw [HD.out]), _, World.drewN_drewN _ _ _⟩
        · have hd : ¬ (k : Int) < (n : Int) := by omega
          have HD := Lib.hid (show decide (la = lb) = true by
            rw [decide_eq_true_iff]
            have e := HT.out
            rw [List.take_of_length_le (by rw [← HN.out]; omega), List.take_of_length_le (by omega)] at e
            exact e)
          go_wp2
          go_ret
          exact ⟨ret_bool8 (by rw [HD.out]), _, rfl⟩
  · have HD := Lib.hid (show decide (la = lb) = false by
      rw [decide_eq_false_iff_not]; intro e; exact hl (by rw [e]))
    have hz : ((la.length : Int) != (lb.length : Int)) = true := by simp; omega
    clear ha hb hl
    go_enter Try.func24, Try.ntmps24
    go_wp2
    go_ret
    exact ⟨ret_bool8 (by rw [HD.out]), 0, rfl⟩
end Go.Proofs.Ytacnhelnpngkgaa
