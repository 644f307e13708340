/-
  Texts joined: Rread, TkC, TkG.
-/
import Derived.Test.YtgpccgcppbdlpaaGreatMg02
import Derived.Test.YtgpccgcppbdlpaaGreatMg06
import Derived.Test.YtgpccgcppbdlpaaGreatMg09
import Derived.Deep.AppendLies
import Derived.Great.BuildSlice
/-
  The document's own reading of an address.
-/
namespace Go.Proofs.YtgpccgcppbdlpaaGreat
open Go.RowKit
set_option linter.unusedVariables false
attribute [local go_sem ↓] bld_addr bld_b16 ld_addr st_addr ld_b16
attribute [local go_sem] ldr_addr str_addr ldr_b16

/-- The two objects while the bytes are laid down. -/
def RdS (w wr : World) (v : Bool) (s : List UInt8) (k : Nat) : Prop :=
  ObjAt wr w.heap.size (addrC false (List.replicate 16 0)).toArray 24 ∧ ObjAt wr (w.heap.size + 1) (addrC v (s.take k ++ List.replicate (16 - k) 0)).toArray 24 ∧ Below w.heap.size w wr
theorem addrC_set (v : Bool) (l : List UInt8) (k : Nat) (c : UInt8) : (addrC v l).toArray.setIfInBounds (1 + k) (.int .u8 (c.toNat : Int)) = (addrC v (l.set k c)).toArray := by
  apply Array.ext'
  rw [Array.toList_setIfInBounds]
  show (Value.bool v :: B8 l).set (1 + k) _ = Value.bool v :: B8 (l.set k c)
  rw [Nat.add_comm, List.set_cons_succ]
  unfold B8
  rw [List.map_set]
theorem RdS.step {w wr : World} {v : Bool} {s : List UInt8} {k : Nat} (h : RdS w wr v s k) (hk : k < s.length) (h16 : s.length ≤ 16) : RdS w (wr.setCell ⟨w.heap.size + 1, 1 + k, none⟩ (.int .u8 ((s[k]).toNat : Int))) v s (k + 1) := by
  obtain ⟨h1, h2, h3⟩ := h
  refine ⟨ObjAt.other h1 ⟨w.heap.size + 1, 1 + k, none⟩ _ (by simp), ?_, h3.setCell (p := ⟨w.heap.size + 1, 1 + k, none⟩) (by simp) _⟩
  have o1 := h2.set (1 + k) (.int .u8 ((s[k]).toNat : Int))
  rw [addrC_set] at o1
  have e : (s.take k ++ List.replicate (16 - k) 0).set k s[k] = s.take (k + 1) ++ List.replicate (16 - (k + 1)) 0 := by
    rw [List.set_append_right _ _ (by simp; omega), show 16 - k = (16 - (k + 1)) + 1 by omega, List.replicate_succ, show k - (s.take k).length = 0 by simp; omega, List.set_cons_zero]
    rw [List.take_succ_eq_append_getElem hk, List.append_assoc]
    rfl
  rw [e] at o1
  exact o1
theorem RdS.cell {w wr : World} {v : Bool} {s : List UInt8} {k : Nat} (h : RdS w wr v s k) (hk : k < s.length) (h16 : s.length ≤ 16) : wr.cell? ⟨w.heap.size + 1, 1 + k, none⟩ = some (.int .u8 0) := by
  rw [h.2.1.cell, List.getElem?_toArray]
  rw [show addrC v (s.take k ++ List.replicate (16 - k) 0) = .bool v :: B8 (s.take k ++ List.replicate (16 - k) 0) from rfl, Nat.add_comm, List.getElem?_cons_succ]
  unfold B8
  rw [List.getElem?_map, List.getElem?_append_right (by simp; omega)]
  simp
  have : k - min k s.length < 16 - k := by omega
  simp [this]
theorem RdS.frz {w wr : World} {v : Bool} {s : List UInt8} {k : Nat} (h : RdS w wr v s k) : wr.frozen? ⟨w.heap.size + 1, 1 + k, none⟩ = false := h.2.1.free _
theorem RdS.row {w wr : World} {v : Bool} {s : List UInt8} {k : Nat} (h : RdS w wr v s k) (hk : k ≤ s.length) (h16 : s.length ≤ 16) : row? wr (w.heap.size + 1) 0 17 = some (addrC v (s.take k ++ List.replicate (16 - k) 0)) :=
  obj_row (A := []) (M := addrC v (s.take k ++ List.replicate (16 - k) 0)) (C := []) (by simpa using h.2.1) rfl (by rw [addrC_length]; simp; omega)
theorem RdS.free {w wr : World} {v : Bool} {s : List UInt8} {k : Nat} (h : RdS w wr v s k) : free? wr w.heap.size 0 17 = true := obj_free (n := 17) h.1 (by simp [addrC_length])
theorem RdS.start (w : World) (v : Bool) (s : List UInt8) : RdS w (aggW ((w.alloc (.cells #[.bool false, .int .u8 0, .int .u8 0, .int .u8 0, .int .u8 0, .int .u8 0, .int .u8 0, .int .u8 0, .int .u8 0, .int .u8 0, .int .u8 0, .int .u8 0, .int .u8 0, .int .u8 0, .int .u8 0, .int .u8 0, .int .u8 0] 24)).alloc (.cells #[.bool false, .int .u8 0, .int .u8 0, .int .u8 0, .int .u8 0, .int .u8 0, .int .u8 0, .int .u8 0, .int .u8 0, .int .u8 0, .int .u8 0, .int .u8 0, .int .u8 0, .int .u8 0, .int .u8 0, .int .u8 0, .int .u8 0] 24)) (w.heap.size + 1) [.bool v, .int .u8 0, .int .u8 0, .int .u8 0, .int .u8 0, .int .u8 0, .int .u8 0, .int .u8 0, .int .u8 0, .int .u8 0, .int .u8 0, .int .u8 0, .int .u8 0, .int .u8 0, .int .u8 0, .int .u8 0, .int .u8 0]) v s 0 := by
  have h0 := (ObjAt.made w #[.bool false, .int .u8 0, .int .u8 0, .int .u8 0, .int .u8 0, .int .u8 0, .int .u8 0, .int .u8 0, .int .u8 0, .int .u8 0, .int .u8 0, .int .u8 0, .int .u8 0, .int .u8 0, .int .u8 0, .int .u8 0, .int .u8 0] 24).alloc (.cells #[.bool false, .int .u8 0, .int .u8 0, .int .u8 0, .int .u8 0, .int .u8 0, .int .u8 0, .int .u8 0, .int .u8 0, .int .u8 0, .int .u8 0, .int .u8 0, .int .u8 0, .int .u8 0, .int .u8 0, .int .u8 0, .int .u8 0] 24)
  have h1 := ObjAt.made (w.alloc (.cells #[.bool false, .int .u8 0, .int .u8 0, .int .u8 0, .int .u8 0, .int .u8 0, .int .u8 0, .int .u8 0, .int .u8 0, .int .u8 0, .int .u8 0, .int .u8 0, .int .u8 0, .int .u8 0, .int .u8 0, .int .u8 0, .int .u8 0] 24)) #[.bool false, .int .u8 0, .int .u8 0, .int .u8 0, .int .u8 0, .int .u8 0, .int .u8 0, .int .u8 0, .int .u8 0, .int .u8 0, .int .u8 0, .int .u8 0, .int .u8 0, .int .u8 0, .int .u8 0, .int .u8 0, .int .u8 0] 24
  have hz : (w.alloc (.cells #[.bool false, .int .u8 0, .int .u8 0, .int .u8 0, .int .u8 0, .int .u8 0, .int .u8 0, .int .u8 0, .int .u8 0, .int .u8 0, .int .u8 0, .int .u8 0, .int .u8 0, .int .u8 0, .int .u8 0, .int .u8 0, .int .u8 0] 24)).heap.size = w.heap.size + 1 := by simp
  rw [hz] at h1
  have hb : Below w.heap.size w ((w.alloc (.cells #[.bool false, .int .u8 0, .int .u8 0, .int .u8 0, .int .u8 0, .int .u8 0, .int .u8 0, .int .u8 0, .int .u8 0, .int .u8 0, .int .u8 0, .int .u8 0, .int .u8 0, .int .u8 0, .int .u8 0, .int .u8 0, .int .u8 0] 24)).alloc (.cells #[.bool false, .int .u8 0, .int .u8 0, .int .u8 0, .int .u8 0, .int .u8 0, .int .u8 0, .int .u8 0, .int .u8 0, .int .u8 0, .int .u8 0, .int .u8 0, .int .u8 0, .int .u8 0, .int .u8 0, .int .u8 0, .int .u8 0] 24)) := ((Below.refl _ _).alloc (Nat.le_refl _) _).alloc (by simp) _
  exact ⟨aggW_other h0 _ (by omega), aggW_obj (cs := [.bool v, .int .u8 0, .int .u8 0, .int .u8 0, .int .u8 0, .int .u8 0, .int .u8 0, .int .u8 0, .int .u8 0, .int .u8 0, .int .u8 0, .int .u8 0, .int .u8 0, .int .u8 0, .int .u8 0, .int .u8 0, .int .u8 0]) h1 rfl (addrC_one v (List.replicate 16 0)), aggW_below hb (by omega) _⟩
theorem RdS.done {w wr : World} {v : Bool} {s : List UInt8} {k : Nat} (h : RdS w wr v s k) (cs : List Value) (hc : cs.length = 17) : row? (aggW wr w.heap.size cs) w.heap.size 0 17 = some cs ∧ Below w.heap.size w (aggW wr w.heap.size cs) :=
  ⟨aggW_row h.free hc, aggW_below h.2.2 (Nat.le_refl _) _⟩
theorem RdS.done2 {w wr : World} {v : Bool} {s : List UInt8} {k : Nat} (h : RdS w wr v s k) (h1 : s.length ≤ 16) : row? (aggW wr w.heap.size (addrC v (readV s))) w.heap.size 0 17 = some (addrC v (readV s)) ∧ Below w.heap.size w (aggW wr w.heap.size (addrC v (readV s))) :=
  h.done _ (by rw [addrC_length, readV_length s h1])

set_option maxRecDepth 100000 in
set_option maxHeartbeats 1000000 in
theorem rread_good (v : Bool) (l : List UInt8) (h1 : l.length ≤ 16) (hv : ((l.length : Int) == 16) = v) (g : ((l.length : Int) == 4) = !v) (w : World) :
    Calls Tryz.prog 107 #[.string (Str l)] w fun e w' => e = .returned (.tuple #[.agg (addrC v (readV l)).toArray, .bool true]) ∧ Below w.heap.size w w' := by
  have hsz := Str_size l
  have i4 : ((l.length : Int) != 4) = v := by simp [bne, g]
  have i16 : ((l.length : Int) != 16) = !v := by simp [bne, hv]
  have hok : fok #[.bool v, .int .u8 0, .int .u8 0, .int .u8 0, .int .u8 0, .int .u8 0, .int .u8 0, .int .u8 0, .int .u8 0, .int .u8 0, .int .u8 0, .int .u8 0, .int .u8 0, .int .u8 0, .int .u8 0, .int .u8 0, .int .u8 0] 17 = true := by simp [fok, Value.oneCell']
  have hok2 : fok (addrC v (l ++ List.replicate (16 - l.length) 0)).toArray 17 = true := fok_addr v (readV l) (readV_length l h1)
  have hbld2 : ∀ w0, (aggBuild 24 #[(0, .bool v)]).run Tryz.prog w0 = .ok (.agg #[.bool v, .int .u8 0, .int .u8 0, .int .u8 0, .int .u8 0, .int .u8 0, .int .u8 0, .int .u8 0, .int .u8 0, .int .u8 0, .int .u8 0, .int .u8 0, .int .u8 0, .int .u8 0, .int .u8 0, .int .u8 0, .int .u8 0]) w0 := bld_run _ _ _ (by kernel_rfl)
  have HS := Lib.hid (RdS.start w v l)
  have hf1 := free_made (w.alloc (.cells #[.bool false, .int .u8 0, .int .u8 0, .int .u8 0, .int .u8 0, .int .u8 0, .int .u8 0, .int .u8 0, .int .u8 0, .int .u8 0, .int .u8 0, .int .u8 0, .int .u8 0, .int .u8 0, .int .u8 0, .int .u8 0, .int .u8 0] 24)) #[.bool false, .int .u8 0, .int .u8 0, .int .u8 0, .int .u8 0, .int .u8 0, .int .u8 0, .int .u8 0, .int .u8 0, .int .u8 0, .int .u8 0, .int .u8 0, .int .u8 0, .int .u8 0, .int .u8 0, .int .u8 0, .int .u8 0] 24 17 (by simp)
  rw [show (w.alloc (.cells #[.bool false, .int .u8 0, .int .u8 0, .int .u8 0, .int .u8 0, .int .u8 0, .int .u8 0, .int .u8 0, .int .u8 0, .int .u8 0, .int .u8 0, .int .u8 0, .int .u8 0, .int .u8 0, .int .u8 0, .int .u8 0, .int .u8 0] 24)).heap.size = w.heap.size + 1 by simp] at hf1
  go_enter Tryz.func107, Tryz.ntmps107
  go_upto_region 2 with (fail)
  generalize aggW ((w.alloc (.cells #[.bool false, .int .u8 0, .int .u8 0, .int .u8 0, .int .u8 0, .int .u8 0, .int .u8 0, .int .u8 0, .int .u8 0, .int .u8 0, .int .u8 0, .int .u8 0, .int .u8 0, .int .u8 0, .int .u8 0, .int .u8 0, .int .u8 0] 24)).alloc (.cells #[.bool false, .int .u8 0, .int .u8 0, .int .u8 0, .int .u8 0, .int .u8 0, .int .u8 0, .int .u8 0, .int .u8 0, .int .u8 0, .int .u8 0, .int .u8 0, .int .u8 0, .int .u8 0, .int .u8 0, .int .u8 0, .int .u8 0] 24)) (w.heap.size + 1) _ = W at HS ⊢
  clear hf1
  have HV := Lib.hid hv
  cases v <;>
  · go_upto_region 5 with (fail)
    clear hv g i4 i16
    go_loopw [5] (fun vi wr => ∃ k : Nat, k ≤ l.length ∧ vi = .int .i64 (k : Int) ∧ Hid (RdS w wr _ l k)) (fun vi _ => l.length - (intOf vi).toNat)
    case atStart => exact ⟨0, by omega, rfl, HS⟩
    case round _ wr =>
      obtain ⟨k, hk, rfl, hq⟩ := hrel
      by_cases hlt : k < l.length
      · have hc := hq.out.cell hlt h1
        have hf := hq.out.frz
        have Hn := Lib.hid (hq.out.step hlt h1)
        go_wp2
        go_roundw
        case rel => exact ⟨k + 1, by omega, by go_num, Hn⟩
        case measure => simp [intOf]; omega
      · have hk2 : k = l.length := by omega
        have hro := hq.out.row hk h1
        rw [hk2, List.take_of_length_le (Nat.le_refl _)] at hro
        have hf := hq.out.free
        go_wp2
        obtain ⟨hr, hb⟩ := hq.out.done2 h1
        exact bodyPost_ret (results_cell2 Tryz.results107 rfl (ld_some hr (ldr_addr _ _ _))) rfl ⟨rfl, hb⟩
end Go.Proofs.YtgpccgcppbdlpaaGreat

/-
  The document's own four and sources of layer 8.
-/
namespace Go.Proofs.YtgpccgcppbdlpaaGreat
open Go.RowKit
set_option linter.unusedVariables false
attribute [local go_sem ↓] ld_addr st_addr bld_addr
attribute [local go_sem] ldr_addr str_addr row?_drewN_eq row?_drew_eq

/-- A row of addresses of one's own. -/
def adsC (l : List AD) : List Value := (l.map adC).flatten
theorem adsC_get {l : List AD} (h : ∀ a ∈ l, adOk a) : ∀ (i j : Nat) (hi : i < l.length), j < 17 → (adsC l)[i * 17 + j]? = (adC l[i])[j]? := by
  induction l with
  | nil => intro i j hi; exact absurd hi (by simp)
  | cons a r ih =>
    intro i j hi hj
    have h1 := adC_length (h a (by simp))
    have e : adsC (a :: r) = adC a ++ adsC r := by simp [adsC]
    rw [e]
    cases i with
    | zero => rw [Nat.zero_mul, Nat.zero_add, List.getElem?_append_left (by omega)]; rfl
    | succ i =>
      rw [List.getElem?_append_right (by omega), h1, show (i + 1) * 17 + j - 17 = i * 17 + j by omega]
      exact ih (fun b hb => h b (by simp [hb])) i j (by simpa using hi) hj
theorem Ads.own {w : World} {base : Nat} {v : Value} {l : List AD} (ho : ∀ a ∈ l, adOk a) (h : w.ownsRow base 24 17 v l.length (adsC l)) : Ads w v l := by
  obtain ⟨h1, h2 | ⟨g, cap, cur, rfl, h3, h4, h5, h6, h7, h8⟩⟩ := h
  · obtain ⟨rfl, h2⟩ := h2
    have : l = [] := List.eq_nil_of_length_eq_zero h2
    subst this
    exact Ads.nil w
  · refine ⟨some ⟨g, 0, none⟩, cap, rfl, h5, h6, ho, fun hn => ⟨g, 0, rfl, (Array.getElem?_eq_some_iff.1 h4).1, fun i hi => ?_⟩⟩
    have hob : ObjAt w g cur 24 := h4
    have hr : w.rangeAt g (0 + i * 17) (adC l[i]) := fun j u hu => by
      have hj : j < 17 := by
        have := (List.getElem?_eq_some_iff.1 hu).1
        rw [adC_length (ho _ (List.getElem_mem hi))] at this
        exact this
      rw [ObjAt.cell hob, ← Array.getElem?_toList]
      have e1 := adsC_get ho i j hi hj
      rw [hu, ← h8, List.getElem?_take] at e1
      rw [Nat.zero_add]
      split at e1
      · exact e1
      · cases e1
    have := row?_of hr
    rw [adC_length (ho _ (List.getElem_mem hi))] at this
    exact this
theorem own_below8 {w w' : World} {base : Nat} {e : TypeId} {size : Nat} {v : Value} {n : Nat} {xs : List Value} (h : w.ownsRow base e size v n xs) (hb : Below w.heap.size w w') : w'.ownsRow base e size v n xs := by
  obtain ⟨h1, h2 | ⟨g, cap, cur, e1, e2, e3, e4⟩⟩ := h
  · exact ⟨h1, .inl h2⟩
  · exact ⟨h1, .inr ⟨g, cap, cur, e1, e2, (hb.block g (Array.getElem?_eq_some_iff.1 e3).1).trans e3, e4⟩⟩
/-- A slice literal of one address, as one step. -/
noncomputable def adsLit (p : Array (Nat × Value)) : Sem Value := Instr.buildSlice 25 1 p
theorem adsLit_eq (p : Array (Nat × Value)) : Instr.buildSlice 25 1 p = adsLit p := rfl
attribute [local go_sem ↓] adsLit_eq
theorem info_ad : (Tryz.prog.info? 24).map (fun i => (i.zero, i.size, i.bytes)) = some (some (.agg #[.bool false, .int .u8 0, .int .u8 0, .int .u8 0, .int .u8 0, .int .u8 0, .int .u8 0, .int .u8 0, .int .u8 0, .int .u8 0, .int .u8 0, .int .u8 0, .int .u8 0, .int .u8 0, .int .u8 0, .int .u8 0, .int .u8 0]), 17, 17) := by kernel_rfl
theorem adsLit_run (a : AD) (ho : adOk a) (w : World) : (adsLit #[(0, .agg (adC a).toArray)]).run Tryz.prog w = .ok (.slice (some ⟨w.heap.size, 0, none⟩) 1 1) (w.alloc (.cells (adC a).toArray 24)) := by
  obtain ⟨i0, hi0, hz0, hz1, hz2⟩ := info_parts info_ad
  obtain ⟨v, l⟩ := a
  obtain ⟨b0, b1, b2, b3, b4, b5, b6, b7, b8, b9, ba, bb, bc, bd, be, bf, e⟩ := list16 (show l.length = 16 from ho)
  subst e
  refine run_buildSlice w 25 24 1 _ _ i0 _ Tryz.underlying25 hi0 hz0 (by rw [hz1]; decide) (by rw [hz1]; decide) ?_
  rw [hz1]
  kernel_rfl
/-- A slice of addresses whose block holds addresses. -/
def AdT (w : World) (v : Value) : Prop := ∀ (b o n c : Nat), v = .slice (some ⟨b, o, none⟩) n c → b < w.heap.size ∧ ∃ cur fz, w.heap[b]? = some (.cells cur 24 fz)
theorem AdT.below {w w' : World} {v : Value} (h : AdT w v) (hb : Below w.heap.size w w') : AdT w' v := fun b o n c e => by
  obtain ⟨h1, cur, fz, h2⟩ := h b o n c e
  exact ⟨Nat.lt_of_lt_of_le h1 hb.size, cur, fz, (hb.block b h1).trans h2⟩
theorem AdT.own {w : World} {base : Nat} {v : Value} {n : Nat} {xs : List Value} (h : w.ownsRow base 24 17 v n xs) : AdT w v := fun b o n' c e => by
  obtain ⟨h1, h2 | ⟨g, cap, cur, rfl, h3, h4, h5, h6, h7, h8⟩⟩ := h
  · rw [h2.1] at e; cases e
  · simp only [Value.slice.injEq, Option.some.injEq, Addr.mk.injEq] at e
    obtain ⟨⟨rfl, _⟩, _⟩ := e
    exact ⟨(Array.getElem?_eq_some_iff.1 h4).1, cur, _, h4⟩
theorem AdT.lit (w : World) : Ads (w.alloc (.cells #[] 24)) (.slice (some ⟨w.heap.size, 0, none⟩) 0 0) [] ∧ AdT (w.alloc (.cells #[] 24)) (.slice (some ⟨w.heap.size, 0, none⟩) 0 0) := by
  have h := World.ownsRow_lit w (e := 24) (size := 17) #[] 0 (Nat.le_refl _) (by unfold maxLen; omega) (by simp)
  exact ⟨Ads.own (l := []) (fun a h => by cases h) h, AdT.own h⟩
end Go.Proofs.YtgpccgcppbdlpaaGreat

/-
  The document's own Good of layer 8, but for reports of version 3.
-/
namespace Go.Proofs.YtgpccgcppbdlpaaGreat
open Go.RowKit
set_option linter.unusedVariables false
attribute [local go_sem ↓] ld_addr st_addr bld_addr
attribute [local go_sem] ldr_addr str_addr

/-- The talk boxed, the zero address behind it. -/
def GD (w W : World) (t : TK) (us ur : Value) : Prop := TkAt W w.heap.size t us ur ∧ ObjAt W (w.heap.size + 1) (adC zeroA).toArray 24 ∧ Below w.heap.size w W
theorem GD.made (w : World) (t : TK) (us ur : Value) (h : adOk t.g) : GD w (aggW ((w.alloc (.cells (tkC t us ur).toArray 28)).alloc (.cells #[.bool false, .int .u8 0, .int .u8 0, .int .u8 0, .int .u8 0, .int .u8 0, .int .u8 0, .int .u8 0, .int .u8 0, .int .u8 0, .int .u8 0, .int .u8 0, .int .u8 0, .int .u8 0, .int .u8 0, .int .u8 0, .int .u8 0] 24)) (w.heap.size + 1) (adC zeroA)) t us ur := by
  have s1 : (w.alloc (.cells (tkC t us ur).toArray 28)).heap.size = w.heap.size + 1 := by simp
  have h1 := (ObjAt.made (w.alloc (.cells (tkC t us ur).toArray 28)) #[.bool false, .int .u8 0, .int .u8 0, .int .u8 0, .int .u8 0, .int .u8 0, .int .u8 0, .int .u8 0, .int .u8 0, .int .u8 0, .int .u8 0, .int .u8 0, .int .u8 0, .int .u8 0, .int .u8 0, .int .u8 0, .int .u8 0] 24)
  rw [s1] at h1
  refine ⟨⟨aggW_other (ObjAt.alloc (TkAt.made w t us ur h).1 _) _ (by omega), h⟩, aggW_obj (L := adC zeroA) h1 rfl (addrC_one _ _), aggW_below (((Below.refl _ _).alloc (Nat.le_refl _) _).alloc (by simp) _) (by omega) _⟩
theorem GD.below {w W W' : World} {t : TK} {us ur : Value} (h : GD w W t us ur) (hb : Below W.heap.size W W') : GD w W' t us ur := ⟨h.1.below hb, h.2.1.below hb h.2.1.lt, bstep h.2.2 hb⟩
/-- What Good reads. -/
def GC (w W : World) (t : TK) (us ur : Value) : Prop :=
  W.cell? ⟨w.heap.size, 0, none⟩ = some (.bool t.v6) ∧ W.cell? ⟨w.heap.size, 1, none⟩ = some (.int .i64 t.ver) ∧ W.cell? ⟨w.heap.size, 2, none⟩ = some (.int .i64 t.kind) ∧ W.cell? ⟨w.heap.size, 3, none⟩ = some (.int .i64 t.resp) ∧ row? W w.heap.size 4 17 = some (adC t.g) ∧ W.cell? ⟨w.heap.size, 21, none⟩ = some (.bool t.quiet) ∧ W.cell? ⟨w.heap.size, 22, none⟩ = some (.int .i64 t.rob) ∧ W.cell? ⟨w.heap.size, 23, none⟩ = some (.int .i64 t.every) ∧ W.cell? ⟨w.heap.size, 24, none⟩ = some us ∧ W.cell? ⟨w.heap.size, 25, none⟩ = some ur ∧ row? W (w.heap.size + 1) 0 17 = some (adC zeroA)
theorem GD.cells {w W : World} {t : TK} {us ur : Value} (h : GD w W t us ur) : GC w W t us ur :=
  ⟨h.1.v6, h.1.ver, h.1.kind, h.1.resp, h.1.rg, h.1.quiet, h.1.rob, h.1.every, h.1.us, h.1.ur, obj_rowk (A := []) (M := adC zeroA) (C := []) (by simpa using h.2.1) rfl (adC_length zeroA_ok)⟩


end Go.Proofs.YtgpccgcppbdlpaaGreat

