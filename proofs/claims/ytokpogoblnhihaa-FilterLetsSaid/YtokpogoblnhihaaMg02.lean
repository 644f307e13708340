/-
  Texts joined: EqA, Ads.
-/
import Derived.Test.YtokpogoblnhihaaMg00
import Derived.Test.YtokpogoblnhihaaMg01
import Derived.Laws.StructEq
import Derived.Deep.RegionHeld3
import Derived.Deep.Cut
import Derived.BigQuiet
import Derived.LoopTactic
import Derived.Deep.QuietTactic
/-
  Two addresses are held against each other: a rule for the walk.
-/
namespace Go.Proofs.Ytokpogoblnhihaa
open Go.RowKit
set_option linter.unusedVariables false

theorem run_eq_bytes_d {P : Program} {t e : TypeId} {n : Nat} {i : TypeInfo} (hu : P.underlying t = some (.array n e)) (he : P.underlying e = some (.int .u8)) (hp : P.plainKey e = true) (hi : P.info? e = some i) (hc : P.cellsOf e = 1) (l m : List UInt8) (hl : l.length = n) (hm : m.length = n) (d : Nat) (w : World) :
    (Op.equalIn (d + 1 + 1) t (.agg (B8 l).toArray) (.agg (B8 m).toArray)).run P w = .ok (decide (l = m)) w := by
  rw [run_equalIn_array w (d + 1) _ _ hu hi, hc, eqItems_bytes he hp d l m w _ (by intro j hj; have := List.mem_range.1 hj; omega)]
  subst hl
  rw [all_range_eq l m hm.symm]
theorem part_bytes (v : Bool) (l : List UInt8) (hl : l.length = 16) (w : World) : (part 35 (addrC v l).toArray 1).run Try.prog w = .ok (.agg (B8 l).toArray) w := by
  obtain ⟨i, hi⟩ := info_of Try.underlying35
  have hs : (Try.prog.info? 35).map (·.size) = some 16 := by kernel_rfl
  rw [hi] at hs
  simp at hs
  have e : ((addrC v l).toArray.extract 1 17) = (B8 l).toArray := by
    apply Array.ext'
    simp [addrC, B8_length, hl, List.take_of_length_le]
  have e2 : List.take 16 (addrC v l).tail = B8 l := by
    rw [addrC]; simp [B8_length, hl, List.take_of_length_le]
  simp [part, isAgg, run_underlying Try.underlying35, sizeOf, typeInfo, hi, hs, e2]
theorem eq_fin {P : Program} (v v' : Bool) (l l' : List UInt8) (w : World) (S1 S2 : Sem Value) (x y : Value) (E : Value → Value → Sem Bool) (h1 : S1.run P w = .ok x w) (h2 : S2.run P w = .ok y w) (h3 : (E x y).run P w = .ok (decide (l = l')) w) :
    (Sem.run P (if (!v == v') = true then pure false
      else do
        let a ← S1
        let b ← S2
        let r ← E a b
        if (!r) = true then pure false else pure true) w) = .ok (decide (v = v' ∧ l = l')) w := by
  by_cases hv : v = v'
  · subst hv
    by_cases hl : l = l' <;> simp [h1, h2, h3, hl]
  · simp [hv]
theorem eq_addr_d (d : Nat) (v v' : Bool) (l l' : List UInt8) (hl : l.length = 16) (hl' : l'.length = 16) (w : World) :
    (Op.equalIn (d + 1 + 1 + 1) 37 (.agg (addrC v l).toArray) (.agg (addrC v' l').toArray)).run Try.prog w = .ok (decide (v = v' ∧ l = l')) w := by
  have hf : Try.prog.underlying 37 = some (.struct (Try.prog.fieldsOf 37)) := by
    have h := Try.underlying37
    rw [Program.fieldsOf, h]
  obtain ⟨i8, hi8⟩ := info_of Try.underlying5
  have hb := run_eq_bytes_d (P := Try.prog) Try.underlying35 Try.underlying5 (by kernel_rfl) hi8 (by kernel_rfl) l l' hl hl' d w
  have hp1 := part_bytes v l hl w
  have hp2 := part_bytes v' l' hl' w
  have q1 : (part 4 (addrC v l).toArray 0).run Try.prog w = .ok (.bool v) w := run_part_plain w (by kernel_rfl) rfl
  have q2 : (part 4 (addrC v' l').toArray 0).run Try.prog w = .ok (.bool v') w := run_part_plain w (by kernel_rfl) rfl
  have q3 : (Op.equalIn (d + 1 + 1) 4 (.bool v) (.bool v')).run Try.prog w = .ok (v == v') w := by
    simp [Op.equalIn, run_underlying Try.underlying4]
  have hF : (Try.prog.fieldsOf 37).toList.map (fun f => (f.name, f.type, f.offset)) = [("V6", 4, 0), ("B", 35, 1)] := by kernel_rfl
  rw [run_equalIn_struct w (d + 1 + 1) _ _ _ hf (by kernel_rfl)]
  generalize (Try.prog.fieldsOf 37).toList = fs at hF
  obtain ⟨f, fs1, rfl, hf1, hF1⟩ := List.map_eq_cons_iff.1 hF
  obtain ⟨g, fs2, rfl, hg1, hF2⟩ := List.map_eq_cons_iff.1 hF1
  obtain rfl := List.map_eq_nil_iff.1 hF2
  simp only [Prod.mk.injEq] at hf1 hg1
  obtain ⟨n1, n2, n3⟩ := hf1
  obtain ⟨n4, n5, n6⟩ := hg1
  simp only [Op.eqFields, n1, n2, n3, n4, n5, n6, ne_eq, String.reduceEq, not_false_eq_true, if_true, Sem.run_bind, q1, q2, q3, Result.andThen_ok]
  have hb' : (Op.equalIn (d + 1 + 1) 35 (.agg (B8 l).toArray) (.agg (B8 l').toArray)).run Try.prog w = .ok (decide (l = l')) w := hb
  clear q1 q2 q3 hb hf hF hF1 hF2 n1 n2 n3 n4 n5 n6 hi8
  generalize part 35 (addrC v l).toArray 1 = S1 at hp1 ⊢
  generalize part 35 (addrC v' l').toArray 1 = S2 at hp2 ⊢
  have hb2 : (Op.equalIn (d + 1 + 1) 35 (.agg (B8 l).toArray) (.agg (B8 l').toArray)).run Try.prog w = .ok (decide (l = l')) w := hb'
  generalize (B8 l).toArray = X1 at hp1 hb2
  generalize (B8 l').toArray = X2 at hp2 hb2
  clear hb'
  exact eq_fin v v' l l' w _ _ _ _ _ hp1 hp2 hb2
theorem eq_addr (v v' : Bool) (l l' : List UInt8) (hl : l.length = 16) (hl' : l'.length = 16) (w : World) :
    (Op.equalIn 10000 37 (.agg (addrC v l).toArray) (.agg (addrC v' l').toArray)).run Try.prog w = .ok (decide (v = v' ∧ l = l')) w :=
  eq_addr_d 9997 v v' l l' hl hl' w
end Go.Proofs.Ytokpogoblnhihaa

/-
  Lists of addresses in memory, and the document's own comparison of two.
-/
namespace Go.Proofs.Ytokpogoblnhihaa
open Go.RowKit
set_option linter.unusedVariables false

/-- An address as plain data: whether it is of IPv6, and its sixteen bytes. -/
abbrev AD := Bool × List UInt8
def adOk (a : AD) : Prop := a.2.length = 16
def adC (a : AD) : List Value := addrC a.1 a.2
theorem adC_length {a : AD} (h : adOk a) : (adC a).length = 17 := by unfold adC; rw [addrC_length, h]
/-- A slice of addresses. -/
def Ads (w : World) (v : Value) (l : List AD) : Prop :=
  ∃ (p : Option Addr) (cap : Nat), v = .slice p l.length cap ∧ l.length ≤ cap ∧ cap ≤ maxLen ∧ (∀ a ∈ l, adOk a) ∧
    (l ≠ [] → ∃ b o, p = some ⟨b, o, none⟩ ∧ b < w.heap.size ∧ ∀ i (h : i < l.length), row? w b (o + i * 17) 17 = some (adC l[i]))
theorem Ads.below {w w' : World} {v : Value} {l : List AD} (h : Ads w v l) (hb : Below w.heap.size w w') : Ads w' v l := by
  obtain ⟨p, cap, h1, h2, h3, h4, h5⟩ := h
  refine ⟨p, cap, h1, h2, h3, h4, fun hn => ?_⟩
  obtain ⟨b, o, e1, e2, e3⟩ := h5 hn
  exact ⟨b, o, e1, Nat.lt_of_lt_of_le e2 hb.size, fun i h => row?_below (e3 i h) e2 hb⟩
theorem Ads.nil (w : World) : Ads w (.slice none 0 0) [] := ⟨none, 0, rfl, Nat.le_refl _, by unfold maxLen; omega, fun a h => (by cases h), fun h => absurd rfl h⟩
/-- Where its addresses lie. -/
def AdsAt (w : World) (b o : Nat) (l : List AD) : Prop := ∀ i (h : i < l.length), row? w b (o + i * 17) 17 = some (adC l[i])
theorem Ads.parts {w : World} {v : Value} {l : List AD} (h : Ads w v l) (hn : l ≠ []) : ∃ b o cap, v = .slice (some ⟨b, o, none⟩) l.length cap ∧ l.length ≤ cap ∧ cap ≤ maxLen ∧ b < w.heap.size ∧ AdsAt w b o l := by
  obtain ⟨p, cap, h1, h2, h3, h4, h5⟩ := h
  obtain ⟨b, o, rfl, e2, e3⟩ := h5 hn
  exact ⟨b, o, cap, h1, h2, h3, e2, e3⟩
theorem Ads.ok {w : World} {v : Value} {l : List AD} (h : Ads w v l) : ∀ a ∈ l, adOk a := by obtain ⟨p, cap, h1, h2, h3, h4, h5⟩ := h; exact h4
theorem Ads.len {w : World} {v : Value} {l : List AD} (h : Ads w v l) : ∃ p cap, v = .slice p l.length cap ∧ l.length ≤ cap ∧ cap ≤ maxLen := by obtain ⟨p, cap, h1, h2, h3, h4, h5⟩ := h; exact ⟨p, cap, h1, h2, h3⟩
/-- From a shape. -/
def adOf (x : Bool × (List UInt8 × Unit)) : AD := (x.1, x.2.1)
theorem Ads.of {w : World} {v : Value} {xs : List (Bool × (List UInt8 × Unit))} (h : sliceS 17 addrS w [v] xs) : Ads w v (xs.map adOf) := by
  rcases h with ⟨h1, h2⟩ | ⟨a, cap, h1, h2, h3, h4, h5⟩
  · simp at h1
    subst h1 h2
    exact Ads.nil w
  · simp at h1
    subst h1
    refine ⟨some a, cap, by simp, by simpa using h2, h3, ?_, fun hn => ?_⟩
    · intro y hy
      obtain ⟨x, hx, rfl⟩ := List.mem_map.1 hy
      obtain ⟨i, hi⟩ := List.getElem?_of_mem hx
      obtain ⟨c, e1, e2, e3⟩ := h5 i x hi
      exact (addrS_cells e3).2
    · have hx : xs ≠ [] := by rintro rfl; exact hn rfl
      obtain ⟨q1, q2⟩ := h4 hx
      obtain ⟨ab, ao, as_⟩ := a
      simp only at q1 q2
      subst q1
      refine ⟨ab, ao, rfl, q2, fun i hi => ?_⟩
      simp at hi
      obtain ⟨c, e1, e2, e3⟩ := h5 i xs[i] (List.getElem?_eq_getElem hi)
      obtain ⟨f1, f2⟩ := addrS_cells e3
      have hc : c = adC (adOf xs[i]) := by rw [f1]; rfl
      rw [List.getElem_map, ← hc]
      have hr : w.rangeAt ab (ao + i * 17) c := fun j v hv => by
        have hj := (List.getElem?_eq_some_iff.1 hv).1
        rw [Nat.add_assoc, e2 j (by omega)]; exact hv
      have := row?_of hr
      rw [e1] at this
      exact this

theorem ret_bool8 {a b : Bool} (h : a = b) : Ending.returned (.bool a) = .returned (.bool b) := by rw [h]
theorem eq_ad (a b : AD) (ha : adOk a) (hb : adOk b) (w : World) : (Op.equalIn 10000 37 (.agg (adC a).toArray) (.agg (adC b).toArray)).run Try.prog w = .ok (decide (a = b)) w := by
  have := eq_addr a.1 b.1 a.2 b.2 ha hb w
  rw [show decide (a = b) = decide (a.1 = b.1 ∧ a.2 = b.2) by
    rw [Bool.eq_iff_iff, decide_eq_true_iff, decide_eq_true_iff, Prod.ext_iff]]
  exact this
theorem row?_drewN_eq (w : World) (b o n k : Nat) : row? (w.drewN k) b o n = row? w b o n := rfl
theorem row?_drew_eq (w : World) (b o n : Nat) : row? w.drew b o n = row? w b o n := rfl
attribute [local go_sem ↓] ld_addr
attribute [local go_sem] ldr_addr row?_drewN_eq row?_drew_eq

end Go.Proofs.Ytokpogoblnhihaa

