/-
  Texts joined: SeA, SeP.
-/
import Derived.Test.YtokpogoblnhihaaMg14
import Derived.Test.YtokpogoblnhihaaMg21
import Derived.Test.YtokpogoblnhihaaCmp
/-
  Sorting a row of addresses of one's own: what the library's sort asks, and what it leaves.
-/
namespace Go.Proofs.Ytokpogoblnhihaa
open Go.RowKit
set_option linter.unusedVariables false
set_option linter.unusedSimpArgs false

/-- Addresses of sixteen bytes. -/
abbrev A16 := { a : AD // a.2.length = 16 }
instance : Inhabited A16 := ⟨⟨(false, List.replicate 16 0), by simp⟩⟩
def encA (x : A16) : List Value := adC x.1
def cfA (x y : A16) : Int := cmpV x.1.1 y.1.1 x.1.2 y.1.2
theorem encA_length (x : A16) : (encA x).length = 17 := adC_length x.2
theorem encA_one (x : A16) : ∀ v ∈ encA x, v.oneCell' = true := fun v hv => addrC_one _ _ v hv
theorem ltOf_cfA (x y : A16) : ltOf cfA x y = ltA x.1 y.1 := cmp_lt x.1 y.1
theorem swoA : Sort.SWO (ltOf cfA) where
  irrefl x := by rw [ltOf_cfA]; exact (ltA_ord fun _ => true).irr _
  trans x y z h1 h2 := by rw [ltOf_cfA] at *; exact (ltA_ord fun _ => true).trans _ _ _ h1 h2
  ntrans x y z h1 h2 := by
    rw [ltOf_cfA] at *
    have o := ltA_ord fun _ => true
    cases h : ltA x.1 z.1 with
    | false => rfl
    | true =>
      exfalso
      by_cases e : y.1 = z.1
      · rw [e, h] at h1; cases h1
      · rcases o.tot y.1 z.1 rfl rfl e with k | k
        · rw [k] at h2; cases h2
        · have := o.trans _ _ _ h k
          rw [this] at h1; cases h1

theorem grow_drewN (w : World) (os : Array Obj) (n : Nat) : (Sort.grow w os).drewN n = Sort.grow (w.drewN n) os := rfl
set_option maxRecDepth 100000 in
set_option maxHeartbeats 1000000 in
/-- addr.Cmp turns nothing and lays blocks of its own. -/
theorem cmp_grow (x y : A16) (w : World) :
    Calls Try.prog 52 #[.agg (encA x).toArray, .agg (encA y).toArray] w fun e w' => e = .returned (.int .i64 (cfA x y)) ∧ ∃ q os, w' = Sort.grow (w.drewN q) os := by
  obtain ⟨⟨v, l⟩, hl⟩ := x
  obtain ⟨⟨v', l'⟩, hl'⟩ := y
  unfold encA adC cfA
  simp only at hl hl' ⊢
  have HT := Lib.hid (Two.made w v v' l l')
  have HW : Hid (∃ os, (w.alloc (.cells (addrC v l).toArray 37)).alloc (.cells (addrC v' l').toArray 37) = Sort.grow w os) := Lib.hid ⟨_, by rw [Sort.alloc_eq_grow, Sort.alloc_eq_grow, Sort.grow_grow]⟩
  go_enter Try.func52, Try.ntmps52
  go_upto_region 1 with (fail)
  generalize (w.alloc _).alloc _ = W at HT HW ⊢
  obtain ⟨c0, d0, r, s, b⟩ := HT.out
  have HR := Lib.hid r; have HS := Lib.hid s; have Hb := Lib.hid b
  clear r s b HT
  cases hc : (v == v')
  · cases v <;> cases v' <;> first | (exact absurd hc (by decide)) | skip
    all_goals
      go_wp2
      go_ret
      obtain ⟨os, e⟩ := HW.out
      exact ⟨rfl, _, os, by rw [e]; first | rfl | exact (grow_drewN _ _ 0)⟩
  · have hv : v = v' := by simpa using hc
    subst hv
    clear hc
    have hvv : (v == v) = true := by simp
    go_wp2_with fail
    go_quiet ((go_at_call 61; exact Calls.quiet_of_same (bcmp_any _ _ l l' hl hl' _ (HR.out.drewN _) (HS.out.drewN _))))
    go_wp2
    go_ret
    obtain ⟨os, e⟩ := HW.out
    exact ⟨ret_int (by simp [cmpV]), _, os, by rw [e]; rfl⟩
theorem cmp_lays (blk off size : Nat) (w : World) : CmpLays Try.prog 52 #[] encA 17 cfA blk off size w :=
  fun _ _ _ _ x y => cmp_grow x y _

/-- The cells of a row of addresses, flat. -/
theorem flat_get : ∀ (l : List A16) (t : Nat), t < l.length * 17 → (adsC (l.map (·.1)))[t]? = some ((encA (l[t / 17]!))[t % 17]!)
  | [], t, h => by simp at h
  | a :: r, t, h => by
    have e : adsC ((a :: r).map (·.1)) = adC a.1 ++ adsC (r.map (·.1)) := by unfold adsC; simp
    have l1 : (adC a.1).length = 17 := adC_length a.2
    rw [e]
    by_cases ht : t < 17
    · rw [List.getElem?_append_left (by omega), Nat.div_eq_of_lt ht, Nat.mod_eq_of_lt ht]
      have : ((a :: r)[0]!) = a := rfl
      rw [this]
      unfold encA
      rw [List.getElem?_eq_getElem (by omega), getElem!_pos _ t (by omega)]
    · obtain ⟨u, rfl⟩ : ∃ u, t = 17 + u := ⟨t - 17, by omega⟩
      rw [List.getElem?_append_right (by omega), l1, show 17 + u - 17 = u by omega, flat_get r u (by simp only [List.length_cons] at h; omega), show (17 + u) / 17 = u / 17 + 1 by omega, show (17 + u) % 17 = u % 17 by omega]
      have : ((a :: r)[u / 17 + 1]!) = r[u / 17]! := by simp
      rw [this]
theorem flatK_eq (l : List A16) : (Sort.flatK encA 17 l.toArray).toList = adsC (l.map (·.1)) := by
  have h1 : (adsC (l.map (·.1))).length = l.length * 17 := by
    rw [adsC_length' (fun a ha => by obtain ⟨x, _, rfl⟩ := List.mem_map.1 ha; exact x.2), List.length_map]
  apply List.ext_getElem?
  intro t
  by_cases ht : t < l.length * 17
  · rw [flat_get l t ht, Array.getElem?_toList]
    have h2 : t < (Sort.flatK encA 17 l.toArray).size := by rw [Sort.size_flatK]; simpa using ht
    have h3 := Sort.get_flatK encA 17 l.toArray t (by simpa using ht)
    rw [getElem!_pos _ t h2] at h3
    rw [Array.getElem?_eq_getElem h2, h3]
    simp
  · rw [List.getElem?_eq_none (by rw [Array.length_toList, Sort.size_flatK]; simp; omega), List.getElem?_eq_none (by omega)]
theorem holds_own {w : World} {g : Nat} {cur : Array Value} {e : TypeId} {l : List A16} (hb : w.heap[g]? = some (.cells cur e (0, 0))) (ht : cur.toList.take (l.length * 17) = adsC (l.map (·.1))) : Sort.HoldsK encA 17 w g 0 l.toArray := by
  intro j hj
  have hj' : j < l.length * 17 := by simpa [Sort.size_flatK] using hj
  refine ⟨?_, by simp [World.frozen?, hb]⟩
  have h1 : (cur.toList.take (l.length * 17))[j]? = (adsC (l.map (·.1)))[j]? := by rw [ht]
  rw [List.getElem?_take_of_lt hj', ← flatK_eq, Array.getElem?_toList, Array.getElem?_toList, Array.getElem?_eq_getElem hj] at h1
  simp only [World.cell?, hb, Nat.zero_add]
  simp only [Option.isSome_none, Bool.false_eq_true, if_false]
  rw [h1, getElem!_pos _ j hj]
  rfl
theorem heap_sortedK {w : World} {g n : Nat} {os : Array Obj} {cur : Array Value} {e : TypeId} {fr : Nat × Nat} (F : Array Value) (hb : w.heap[g]? = some (.cells cur e fr)) :
    (Sort.grow (Sort.putRow id (Sort.ahead w n) g 0 F) os).heap[g]? = some (.cells (Sort.putCells id 0 F cur) e fr) := by
  have hg : g < w.heap.size := (Array.getElem?_eq_some_iff.1 hb).1
  rw [Sort.heap_grow_old _ _ (by simpa using hg)]
  simp [Sort.putRow, Sort.mapBlock, Sort.ahead, Array.getElem?_modify, hb, Sort.onCells]
theorem grown_sortedK {w : World} {g n : Nat} {os : Array Obj} (F : Array Value) : w.grownBy (Sort.grow (Sort.putRow id (Sort.ahead w n) g 0 F) os) (some g) := by
  refine ⟨rfl, rfl, rfl, by simp, fun k hk hne => ?_⟩
  rw [Sort.heap_grow_old _ _ (by simpa using hk)]
  have : g ≠ k := fun e => hne (by rw [e])
  simp [Sort.putRow, Sort.mapBlock, Sort.ahead, Array.getElem?_modify, this]
theorem take_putCellsK (cur F : Array Value) (h : F.size ≤ cur.size) : (Sort.putCells id 0 F cur).toList.take F.size = F.toList := by
  apply List.ext_getElem?
  intro j
  by_cases hj : j < F.size
  · rw [List.getElem?_take_of_lt hj, Array.getElem?_toList, Array.getElem?_toList]
    simp [Sort.putCells, hj, show j < cur.size by omega]
  · rw [List.getElem?_take_eq_none (by omega), List.getElem?_eq_none (by simp; omega)]
/-- Behind the sort the same slice owns what the row holds. -/
theorem own_sorted {w : World} {base g cap n : Nat} {os : Array Obj} {l : List AD} {s : List A16} (hl : s.length = l.length) (h : OwnL w base (.slice (some ⟨g, 0, none⟩) l.length cap) l) :
    OwnL (sortWorldK encA 17 w g 0 n s.toArray os) base (.slice (some ⟨g, 0, none⟩) l.length cap) (s.map (·.1)) := by
  have hs : (adsC (s.map (·.1))).length = l.length * 17 := by
    rw [adsC_length' (fun a ha => by obtain ⟨x, _, rfl⟩ := List.mem_map.1 ha; exact x.2), List.length_map, hl]
  have hf : (Sort.flatK encA 17 s.toArray).size = l.length * 17 := by rw [Sort.size_flatK, List.size_toArray, hl]
  obtain ⟨h1, ⟨h2, _⟩ | ⟨g', cap', cur, e1, e2, e3, e4, e5, e6, e7⟩⟩ := h
  · cases h2
  · cases e1
    unfold OwnL
    rw [List.length_map, hl]
    refine ⟨hs, .inr ⟨g, cap, _, rfl, e2, heap_sortedK _ e3, e4, e5, by simp [Sort.putCells, e6], ?_⟩⟩
    rw [← hf, take_putCellsK _ _ (by rw [hf, e6]; exact Nat.mul_le_mul_right _ e4), flatK_eq]
end Go.Proofs.Ytokpogoblnhihaa

/-
  Sets of the program: what a function value says, an address boxed.
-/
namespace Go.Proofs.Ytokpogoblnhihaa
open Go.RowKit
set_option linter.unusedVariables false

theorem box_put (w : World) (c : AD) (ho : adOk c) : ObjAt (aggW (w.alloc (.cells #[.bool false, .int .u8 0, .int .u8 0, .int .u8 0, .int .u8 0, .int .u8 0, .int .u8 0, .int .u8 0, .int .u8 0, .int .u8 0, .int .u8 0, .int .u8 0, .int .u8 0, .int .u8 0, .int .u8 0, .int .u8 0, .int .u8 0] 37)) w.heap.size (adC c)) w.heap.size (adC c).toArray 37 ∧ Below w.heap.size w (aggW (w.alloc (.cells #[.bool false, .int .u8 0, .int .u8 0, .int .u8 0, .int .u8 0, .int .u8 0, .int .u8 0, .int .u8 0, .int .u8 0, .int .u8 0, .int .u8 0, .int .u8 0, .int .u8 0, .int .u8 0, .int .u8 0, .int .u8 0, .int .u8 0] 37)) w.heap.size (adC c)) :=
  ⟨aggW_obj (L := [.bool false, .int .u8 0, .int .u8 0, .int .u8 0, .int .u8 0, .int .u8 0, .int .u8 0, .int .u8 0, .int .u8 0, .int .u8 0, .int .u8 0, .int .u8 0, .int .u8 0, .int .u8 0, .int .u8 0, .int .u8 0, .int .u8 0]) (ObjAt.made w _ _) (by rw [adC_length ho]; rfl) (addrC_one _ _), aggW_below (bbS w _) (Nat.le_refl _) _⟩
theorem box_row {W : World} {m : Nat} {a : AD} (h : ObjAt W m (adC a).toArray 37) (ho : adOk a) : row? W m 0 17 = some (adC a) := obj_row (A := []) (M := adC a) (C := []) (by simpa using h) rfl (adC_length ho)
theorem filter_succ {l : List AD} {k : Nat} (p : AD → Bool) (h : k < l.length) : (l.take (k + 1)).filter p = if p l[k] = true then (l.take k).filter p ++ [l[k]] else (l.take k).filter p := by
  rw [List.take_succ_eq_append_getElem h, List.filter_append]
  by_cases e : p l[k] = true
  · rw [if_pos e]; simp only [List.filter_cons, List.filter_nil, e, if_true]
  · rw [if_neg e]; simp only [List.filter_cons, List.filter_nil, e, if_false, Bool.false_eq_true, List.append_nil]

/-- An address boxed by the call, and what lay before. -/
def BW (w W : World) (a : AD) : Prop := Below w.heap.size w W ∧ ObjAt W w.heap.size (adC a).toArray 37
theorem BW.below {w W W' : World} {a : AD} (h : BW w W a) (hb : Below W.heap.size W W') : BW w W' a := ⟨bstep h.1 hb, h.2.below hb h.2.lt⟩
theorem BW.drewN {w W : World} {a : AD} (h : BW w W a) (k : Nat) : BW w (W.drewN k) a := h.below (bdrewN (Below.refl _ _) k)
theorem BW.made (w : World) (a : AD) : BW w (w.alloc (.cells (adC a).toArray 37)) a := ⟨bbS w _, ObjAt.made w _ _⟩
theorem BW.row {w W : World} {a : AD} (h : BW w W a) (ho : adOk a) : row? W w.heap.size 0 17 = some (adC a) := box_row h.2 ho
end Go.Proofs.Ytokpogoblnhihaa

