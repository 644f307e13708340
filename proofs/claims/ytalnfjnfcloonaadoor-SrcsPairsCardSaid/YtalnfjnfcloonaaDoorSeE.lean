/-
  A row of addresses of one's own that is written in place, and the contract of slices.Compact.
-/
import Derived.Test.YtalnfjnfcloonaaDoorMg22
namespace Go.Proofs.YtalnfjnfcloonaaDoor
open Go.RowKit
set_option linter.unusedVariables false
set_option linter.unusedSimpArgs false

theorem setCells_heap {g : Nat} : ∀ (cs : List Value) (o : Nat) {w : World} {cur : Array Value} {e : TypeId} {fr : Nat × Nat}, w.heap[g]? = some (.cells cur e fr) →
    ∃ cur' : Array Value, (w.setCells g o cs).heap[g]? = some (.cells cur' e fr) ∧ cur'.size = cur.size ∧ (∀ j, j < o ∨ o + cs.length ≤ j → cur'[j]? = cur[j]?) ∧ ∀ j (h : j < cs.length), o + j < cur.size → cur'[o + j]? = some cs[j]
  | [], o, w, cur, e, fr, h => ⟨cur, h, rfl, fun _ _ => rfl, fun j h => absurd h (by simp)⟩
  | v :: r, o, w, cur, e, fr, h => by
    have h1 : (w.setCell ⟨g, o, none⟩ v).heap[g]? = some (.cells (cur.setIfInBounds o v) e fr) := by
      rw [Sort.setCell_eq]; simp [Sort.mapBlock, Array.getElem?_modify, h, Sort.onCells]
    obtain ⟨cur', a, b, c, d⟩ := setCells_heap r (o + 1) h1
    refine ⟨cur', a, by rw [b]; simp, fun j hj => ?_, fun j hj hlt => ?_⟩
    · simp only [List.length_cons] at hj
      rw [c j (by omega), Array.getElem?_setIfInBounds]
      rw [if_neg (by omega)]
    · cases j with
      | zero =>
        rw [Nat.add_zero, c o (Or.inl (by omega)), Array.getElem?_setIfInBounds, if_pos rfl]
        simp at hlt ⊢
        exact hlt
      | succ j =>
        rw [show o + (j + 1) = o + 1 + j by omega, d j (by simpa using hj) (by simp; omega)]
        rfl
theorem ads_get : ∀ {l : List AD}, (∀ a ∈ l, adOk a) → ∀ (i : Nat) (h : i < l.length) (c : Nat), c < 17 → (adsC l)[i * 17 + c]? = (adC l[i])[c]?
  | [], _, i, h, c, _ => by simp at h
  | a :: r, ho, i, h, c, hc => by
    have e : adsC (a :: r) = adC a ++ adsC r := by unfold adsC; simp
    have l1 : (adC a).length = 17 := adC_length (ho a (by simp))
    rw [e]
    cases i with
    | zero => rw [List.getElem?_append_left (by omega)]; simp
    | succ i =>
      rw [List.getElem?_append_right (by omega), l1, show (i + 1) * 17 + c - 17 = i * 17 + c by omega, ads_get (fun x hx => ho x (by simp [hx])) i (by simpa using h) c hc]
      rfl
theorem own_free {w : World} {base g n cap : Nat} {l : List AD} (h : OwnL w base (.slice (some ⟨g, 0, none⟩) n cap) l) (o m : Nat) (hm : o + m ≤ cap * 17) : free? w g o m = true := by
  obtain ⟨h1, ⟨h2, _⟩ | ⟨g', cap', cur, e1, e2, e3, e4, e5, e6, e7⟩⟩ := h
  · cases h2
  · cases e1
    refine free_of fun j hj => ⟨?_, by simp [World.frozen?, e3]⟩
    simp only [World.cell?, e3, Option.isSome_none, Bool.false_eq_true, if_false]
    rw [Array.getElem?_eq_getElem (by omega)]; rfl
theorem own_set {w : World} {base g n cap : Nat} {l : List AD} (hok : ∀ a ∈ l, adOk a) (h : OwnL w base (.slice (some ⟨g, 0, none⟩) n cap) l) (i : Nat) (hi : i < l.length) (a : AD) (ha : adOk a) : OwnL (aggO w g (i * 17) (adC a)) base (.slice (some ⟨g, 0, none⟩) n cap) (l.set i a) := by
  rw [aggO_eq]
  obtain ⟨h1, ⟨h2, _⟩ | ⟨g', cap', cur, e1, e2, e3, e4, e5, e6, e7⟩⟩ := h
  · cases h2
  · cases e1
    have hok2 : ∀ x ∈ l.set i a, adOk x := fun x hx => by
      rcases List.mem_or_eq_of_mem_set hx with h | h
      · exact hok x h
      · rw [h]; exact ha
    have hla : (adC a).length = 17 := adC_length ha
    obtain ⟨cur', c1, c2, c3, c4⟩ := setCells_heap (adC a) (i * 17) e3
    refine ⟨by rw [adsC_length' hok2], .inr ⟨g, cap, cur', by rw [List.length_set], e2, c1, by rw [List.length_set]; exact e4, e5, by rw [c2, e6], ?_⟩⟩
    rw [List.length_set]
    apply List.ext_getElem?
    intro j
    by_cases hj : j < l.length * 17
    · rw [List.getElem?_take_of_lt hj, Array.getElem?_toList]
      have hq : j / 17 < l.length := by omega
      have hj2 : j = j / 17 * 17 + j % 17 := by omega
      have hg := ads_get hok2 (j / 17) (by rw [List.length_set]; exact hq) (j % 17) (Nat.mod_lt _ (by omega))
      rw [← hj2, List.getElem_set] at hg
      rw [hg]
      by_cases e : i = j / 17
      · rw [if_pos e, List.getElem?_eq_getElem (by rw [hla]; exact Nat.mod_lt _ (by omega))]
        have := c4 (j % 17) (by rw [hla]; exact Nat.mod_lt _ (by omega)) (by rw [e6, e]; have : l.length * 17 ≤ cap * 17 := Nat.mul_le_mul_right _ e4; omega)
        rw [e, ← hj2] at this
        exact this
      · rw [if_neg e, c3 j (by rw [hla]; omega), ← ads_get hok (j / 17) hq (j % 17) (Nat.mod_lt _ (by omega)), ← hj2, ← e7, List.getElem?_take_of_lt hj, Array.getElem?_toList]
    · rw [List.getElem?_take_eq_none (by omega), List.getElem?_eq_none (by rw [adsC_length' hok2, List.length_set]; omega)]
/-- The row behind a place is written over, and the slice cut there. -/
theorem own_cut {w : World} {base g n cap : Nat} {d r : List AD} (hok : ∀ a ∈ d ++ r, adOk a) (h : OwnL w base (.slice (some ⟨g, 0, none⟩) n cap) (d ++ r)) (cs : List Value) : OwnL (aggO w g (d.length * 17) cs) base (.slice (some ⟨g, 0, none⟩) d.length cap) d := by
  rw [aggO_eq]
  obtain ⟨h1, ⟨h2, _⟩ | ⟨g', cap', cur, e1, e2, e3, e4, e5, e6, e7⟩⟩ := h
  · cases h2
  · cases e1
    have hd : ∀ a ∈ d, adOk a := fun a ha => hok a (List.mem_append.2 (Or.inl ha))
    obtain ⟨cur', c1, c2, c3, c4⟩ := setCells_heap cs (d.length * 17) e3
    have e4' : d.length ≤ cap := by rw [List.length_append] at e4; omega
    refine ⟨adsC_length' hd, .inr ⟨g, cap, cur', rfl, e2, c1, e4', e5, by rw [c2, e6], ?_⟩⟩
    have e8 : cur.toList.take (d.length * 17) = adsC d := by
      have := congrArg (List.take (d.length * 17)) e7
      rw [List.take_take, Nat.min_eq_left (by rw [List.length_append]; exact Nat.mul_le_mul_right _ (by omega)), adsC_append, List.take_left' (adsC_length' hd)] at this
      exact this
    rw [← e8]
    apply List.ext_getElem?
    intro j
    by_cases hj : j < d.length * 17
    · rw [List.getElem?_take_of_lt hj, List.getElem?_take_of_lt hj, Array.getElem?_toList, Array.getElem?_toList, c3 j (Or.inl hj)]
    · rw [List.getElem?_take_eq_none (by omega), List.getElem?_take_eq_none (by omega)]
theorem own_row {w : World} {base g n cap : Nat} {l : List AD} (hok : ∀ a ∈ l, adOk a) (hn : n = l.length) (h : OwnL w base (.slice (some ⟨g, 0, none⟩) n cap) l) (i : Nat) (hi : i < l.length) : row? w g (i * 17) 17 = some (adC l[i]) := by
  subst hn
  rcases own_at hok h with ⟨e, _⟩ | ⟨g', e, _, h2⟩
  · cases e
  · cases e
    have := h2 i hi
    rwa [Nat.zero_add] at this
theorem str_addrO (b o : Nat) (cs : Array Value) (w : World) : (aggSt 25 ⟨b, o, none⟩ (.agg cs)).run Tryd.prog w = match free? w b o 17 && fok cs 17 with | true => .ok () (aggO w b o cs.toList) | false => aggStSlow 25 b o (.agg cs) w := by
  split
  · rename_i h
    simp only [Bool.and_eq_true, fok, beq_iff_eq] at h
    obtain ⟨h1, h2, h3⟩ := h
    rw [aggO_eq]
    exact run_storeVar_mid w b o 25 cs (by rw [h2]; exact of_free h1) (by rw [h2]; kernel_rfl) h3
  · rfl
def zeroCs : Array Value := #[.bool false, .int .u8 0, .int .u8 0, .int .u8 0, .int .u8 0, .int .u8 0, .int .u8 0, .int .u8 0, .int .u8 0, .int .u8 0, .int .u8 0, .int .u8 0, .int .u8 0, .int .u8 0, .int .u8 0, .int .u8 0, .int .u8 0]
def clrC (n : Nat) : List Value := (Builtin.zeroCells zeroCs n).toList
theorem clrC_length (n : Nat) : (clrC n).length = n * 17 := by unfold clrC Builtin.zeroCells; simp [zeroCs]
theorem clrC_one (n : Nat) : ∀ v ∈ clrC n, v.oneCell' = true := by
  intro v hv
  unfold clrC Builtin.zeroCells at hv
  simp only [Array.toList_map, List.mem_map] at hv
  obtain ⟨i, _, rfl⟩ := hv
  have : ∀ k, k < 17 → (zeroCs[k]!).oneCell' = true := by decide +kernel
  exact this _ (Nat.mod_lt _ (by decide))
theorem run_clear_ad (w : World) (ty : TypeId) (b o n c : Nat) (hn : 0 < n) (hf : free? w b o (n * 17) = true) :
    (Builtin.clear_ #[22] ty #[.slice (some ⟨b, o, none⟩) n c]).run Tryd.prog w = .ok (.tuple #[]) (aggO w b o (clrC n)) := by
  have hst := run_storeCells_cells (P := Tryd.prog) b o (clrC n) 0 w (fun j hj => by rw [clrC_length] at hj; simpa using (of_free hf j hj).1) (fun j hj => by rw [clrC_length] at hj; simpa using (of_free hf j hj).2) (clrC_one n)
  simp only [Nat.add_zero] at hst
  obtain ⟨m, rfl⟩ : ∃ m, n = m + 1 := ⟨n - 1, by omega⟩
  have hz : ∀ w, (zeroValue 25).run Tryd.prog w = .ok (.agg zeroCs) w := Tryd.zeroValue25
  have hc : (Builtin.zeroCells (Value.agg zeroCs).cells (m + 1)).toList = clrC (m + 1) := rfl
  rw [aggO_eq]
  simp [Builtin.clear_, run_underlying Tryd.underlying22, hz, hc, hst]
end Go.Proofs.YtalnfjnfcloonaaDoor
