/-
  Texts joined: MdA, Rread.
-/
import Derived.Test.YtacnhelnpngkgaaPureMd
import Derived.Test.YtacnhelnpngkgaaMg07
import Derived.Test.YtacnhelnpngkgaaMg09
/-
  The document's own Group, zero, Sources and list of layer 9.
-/
namespace Go.Proofs.Ytacnhelnpngkgaa
open Go.RowKit
set_option linter.unusedVariables false
attribute [local go_sem ↓] ld_addr st_addr bld_addr
attribute [local go_sem] ldr_addr str_addr row?_drewN_eq row?_drew_eq

set_option maxRecDepth 100000 in
set_option maxHeartbeats 1000000 in
theorem rgroup9_any (a : AD) (ho : adOk a) (w : World) : Calls Try.prog 27 #[.agg (adC a).toArray] w fun x w' => x = .returned (.bool (grp9 a)) ∧ Below w.heap.size w w' := by
  have H0 := Lib.hid (ABox.made w a)
  have HH := Lib.hid (fun W => rgroup_any a.1 a.2 ho W)
  have HK : Hid (∀ W, ABox w W a → row? W w.heap.size 0 17 = some (adC a) ∧ W.cell? ⟨w.heap.size, 0, none⟩ = some (.bool a.1)) := Lib.hid fun W h => ⟨h.row ho, h.v⟩
  obtain ⟨R, hR⟩ : ∃ R, R = grp9 a := ⟨_, rfl⟩
  rw [← hR]
  unfold grp9 at hR
  change Hid (∀ W, Calls Try.prog 38 #[.agg (adC a).toArray] W _) at HH
  generalize grpV a.1 a.2 = h at HH hR
  go_enter Try.func27, Try.ntmps27
  go_upto_region 1 with (fail)
  generalize w.alloc (.cells (adC a).toArray 24) = W at H0 ⊢
  obtain ⟨r1, c1⟩ := HK.out _ H0.out
  generalize a.1 = v at c1 hR HK
  have HR := Lib.hid hR
  clear hR
  cases v with
  | false =>
    go_wp2
    go_ret
    exact ⟨ret_bool8 (by rw [HR.out]; rfl), H0.out.2⟩
  | true =>
    go_wp2_with (go_at_call 38; (with_reducible refine (HH.out _).mono ?_); rintro x w2 ⟨rfl, hb2⟩; have H2 := Lib.hid (H0.out.below hb2); clear hb2)
    go_ret
    exact ⟨ret_bool8 (by rw [HR.out]; rfl), H2.out.2⟩
set_option maxRecDepth 100000 in
set_option maxHeartbeats 1000000 in
theorem rzero9_any (a : AD) (ho : adOk a) (w : World) : Calls Try.prog 30 #[.agg (adC a).toArray] w fun x w' => x = .returned (.bool (zer9 a)) ∧ Below w.heap.size w w' := by
  have H0 := Lib.hid (ABox.made w a)
  have HH := Lib.hid (fun W => rzero_any a.1 a.2 ho W)
  have HK : Hid (∀ W, ABox w W a → row? W w.heap.size 0 17 = some (adC a) ∧ W.cell? ⟨w.heap.size, 0, none⟩ = some (.bool a.1)) := Lib.hid fun W h => ⟨h.row ho, h.v⟩
  obtain ⟨R, hR⟩ : ∃ R, R = zer9 a := ⟨_, rfl⟩
  rw [← hR]
  unfold zer9 at hR
  change Hid (∀ W, Calls Try.prog 29 #[.agg (adC a).toArray] W _) at HH
  have hz : zeroV a.2 = decide (a.2 = z16) := rfl
  rw [← hz] at hR
  clear hz
  generalize zeroV a.2 = h at HH hR
  go_enter Try.func30, Try.ntmps30
  go_upto_region 1 with (fail)
  generalize w.alloc (.cells (adC a).toArray 24) = W at H0 ⊢
  obtain ⟨r1, c1⟩ := HK.out _ H0.out
  generalize a.1 = v at c1 hR HK
  have HR := Lib.hid hR
  clear hR
  cases v with
  | false =>
    go_wp2
    go_ret
    exact ⟨ret_bool8 (by rw [HR.out]; rfl), H0.out.2⟩
  | true =>
    go_wp2_with (go_at_call 29; (with_reducible refine (HH.out _).mono ?_); rintro x w2 ⟨rfl, hb2⟩; have H2 := Lib.hid (H0.out.below hb2); clear hb2)
    go_ret
    exact ⟨ret_bool8 (by rw [HR.out]; rfl), H2.out.2⟩
def isSix (a : AD) : Bool := a.1
theorem srcs9_eq (l : List AD) : srcs9 l = (l.all isSix && decide (l.length < 65)) := rfl
set_option maxRecDepth 100000 in
set_option maxHeartbeats 2000000 in
theorem rsources9_any (v : Value) (l : List AD) (w : World) (ha : Ads w v l) : Calls Try.prog 28 #[v] w fun x w' => x = .returned (.bool (srcs9 l)) ∧ Below w.heap.size w w' := by
  obtain ⟨p, cap, rfl, h1, h2⟩ := ha.len
  by_cases h0 : l.length = 0
  · have e1 : l = [] := List.eq_nil_of_length_eq_zero h0
    subst e1
    go_enter Try.func28, Try.ntmps28
    go_wp2_with fail
    go_loop [3] (fun i => i = .int .i64 0) (fun _ => 0)
    case atStart => rfl
    case round =>
      subst hrel
      go_wp2
      go_ret
      exact ⟨rfl, Below.refl _ _⟩
  · have na : l ≠ [] := fun h => h0 (by rw [h]; rfl)
    obtain ⟨b, o, cap', e, _, _, hbl, Ra⟩ := ha.parts na
    simp only [Value.slice.injEq] at e
    obtain ⟨rfl, _, rfl⟩ := e
    have OA := Lib.hid ha.ok
    have RA := Lib.hid Ra
    have HBL := Lib.hid hbl
    obtain ⟨n, hn⟩ : ∃ n, n = l.length := ⟨_, rfl⟩
    have hmx : n ≤ maxLen := by omega
    unfold maxLen at hmx
    obtain ⟨R, hR⟩ : ∃ R, R = srcs9 l := ⟨_, rfl⟩
    rw [← hR]
    rw [srcs9_eq] at hR
    rw [← hn] at hR h0 h1 ⊢
    have HR := Lib.hid hR
    have HN := Lib.hid hn
    clear Ra ha na hn hbl hR h1 h2
    go_enter Try.func28, Try.ntmps28
    go_wp2_with fail
    go_loopw [3] (fun i wr => ∃ k : Nat, k ≤ n ∧ i = .int .i64 k ∧ Hid ((l.take k).all isSix = true) ∧ Hid (Below w.heap.size w wr)) (fun i _ => n - (intOf i).toNat)
    case atStart => exact ⟨0, by omega, rfl, Lib.hid (by simp), Lib.hid (Below.refl _ _)⟩
    case round =>
      obtain ⟨k, hk, rfl, HT, HB⟩ := hrel
      by_cases hlt : k < n
      · have g1 : k < l.length := by rw [← HN.out]; exact hlt
        have r1 := row?_below (RA.out k g1) HBL.out HB.out
        have c1 := cells_ad r1
        have HS := Lib.hid (all_take_succ g1 isSix)
        have HF : Hid (isSix l[k] = false → l.all isSix = false) := Lib.hid fun h => by
          rw [← Bool.not_eq_true, List.all_eq_true]
          intro hx
          have := hx _ (List.getElem_mem g1)
          rw [h] at this
          exact absurd this (by simp)
        have hq : isSix l[k] = l[k].1 := rfl
        rw [hq] at HS HF
        clear hq
        have hd : decide ((k : Int) < (n : Int)) = true := by simp; omega
        have hk1 : (k : Int) < (n : Int) := by omega
        have hw1 : IntKind.i64.wrap ((k : Int) + 1) = (k : Int) + 1 := by simp only [IntKind.wrap_i64]; omega
        generalize adC l[k] = A at *
        generalize l[k].1 = v6 at *
        clear g1
        cases v6 with
        | false =>
          have HV := Lib.hid (show R = false by rw [HR.out, HF.out rfl]; rfl)
          go_wp2
          go_ret
          exact ⟨ret_bool8 (by rw [HV.out]), HB.out⟩
        | true =>
          have HV := Lib.hid (show (l.take (k + 1)).all isSix = true by rw [HS.out, HT.out]; rfl)
          go_wp2
          go_roundw
          case rel => exact ⟨k + 1, by omega, by go_num, HV, HB⟩
          case measure => simp [intOf]; omega
      · have hd : ¬ (k : Int) < (n : Int) := by omega
        have HV := Lib.hid (show R = decide ((n : Int) < 65) by
          have e := HT.out
          rw [List.take_of_length_le (by rw [← HN.out]; omega)] at e
          rw [HR.out, e, Bool.true_and, Bool.eq_iff_iff]
          simp; omega)
        go_wp2
        go_ret
        exact ⟨ret_bool8 (by rw [HV.out]), HB.out⟩
end Go.Proofs.Ytacnhelnpngkgaa

/-
  The document's own reading of an address.
-/
namespace Go.Proofs.Ytacnhelnpngkgaa
open Go.RowKit
set_option linter.unusedVariables false
attribute [local go_sem ↓] bld_addr bld_b16 ld_addr st_addr ld_b16
attribute [local go_sem] ldr_addr str_addr ldr_b16

/-- The two objects while the bytes are laid down. -/
def RdS (w wr : World) (v : Bool) (s : List UInt8) (k : Nat) : Prop :=
  ObjAt wr w.heap.size (addrC false (List.replicate 16 0)).toArray 24 ∧ ObjAt wr (w.heap.size + 1) (addrC v (s.take k ++ List.replicate (16 - k) 0)).toArray 24 ∧ Below w.heap.size w wr
theorem addrC_set (v : Bool) (l : List UInt8) (k : Nat) (c : UInt8) : (addrC v l).toArray.setIfInBounds (1 + k) (.int .u8 (c.toNat : Int)) = (addrC v (l.set k c)).toArray := by
  apply Array.ext'
  rw [Array.toList_setIfInBounds]
  show (Value.bool v :: B8 l).set (1 + k) _ = Value.bool v :: B8 (l.set k c)
  rw [Nat.add_comm, List.set_cons_succ]
  unfold B8
  rw [List.map_set]
theorem RdS.step {w wr : World} {v : Bool} {s : List UInt8} {k : Nat} (h : RdS w wr v s k) (hk : k < s.length) (h16 : s.length ≤ 16) : RdS w (wr.setCell ⟨w.heap.size + 1, 1 + k, none⟩ (.int .u8 ((s[k]).toNat : Int))) v s (k + 1) := by
  obtain ⟨h1, h2, h3⟩ := h
  refine ⟨ObjAt.other h1 ⟨w.heap.size + 1, 1 + k, none⟩ _ (by simp), ?_, h3.setCell (p := ⟨w.heap.size + 1, 1 + k, none⟩) (by simp) _⟩
  have o1 := h2.set (1 + k) (.int .u8 ((s[k]).toNat : Int))
  rw [addrC_set] at o1
  have e : (s.take k ++ List.replicate (16 - k) 0).set k s[k] = s.take (k + 1) ++ List.replicate (16 - (k + 1)) 0 := by
    rw [List.set_append_right _ _ (by simp; omega), show 16 - k = (16 - (k + 1)) + 1 by omega, List.replicate_succ, show k - (s.take k).length = 0 by simp; omega, List.set_cons_zero]
    rw [List.take_succ_eq_append_getElem hk, List.append_assoc]
    rfl
  rw [e] at o1
  exact o1
theorem RdS.cell {w wr : World} {v : Bool} {s : List UInt8} {k : Nat} (h : RdS w wr v s k) (hk : k < s.length) (h16 : s.length ≤ 16) : wr.cell? ⟨w.heap.size + 1, 1 + k, none⟩ = some (.int .u8 0) := by
  rw [h.2.1.cell, List.getElem?_toArray]
  rw [show addrC v (s.take k ++ List.replicate (16 - k) 0) = .bool v :: B8 (s.take k ++ List.replicate (16 - k) 0) from rfl, Nat.add_comm, List.getElem?_cons_succ]
  unfold B8
  rw [List.getElem?_map, List.getElem?_append_right (by simp; omega)]
  simp
  have : k - min k s.length < 16 - k := by omega
  simp [this]
theorem RdS.row {w wr : World} {v : Bool} {s : List UInt8} {k : Nat} (h : RdS w wr v s k) (hk : k ≤ s.length) (h16 : s.length ≤ 16) : row? wr (w.heap.size + 1) 0 17 = some (addrC v (s.take k ++ List.replicate (16 - k) 0)) :=
  obj_row (A := []) (M := addrC v (s.take k ++ List.replicate (16 - k) 0)) (C := []) (by simpa using h.2.1) rfl (by rw [addrC_length]; simp; omega)
theorem RdS.free {w wr : World} {v : Bool} {s : List UInt8} {k : Nat} (h : RdS w wr v s k) : free? wr w.heap.size 0 17 = true := obj_free (n := 17) h.1 (by simp [addrC_length])
theorem RdS.start (w : World) (v : Bool) (s : List UInt8) : RdS w (aggW ((w.alloc (.cells #[.bool false, .int .u8 0, .int .u8 0, .int .u8 0, .int .u8 0, .int .u8 0, .int .u8 0, .int .u8 0, .int .u8 0, .int .u8 0, .int .u8 0, .int .u8 0, .int .u8 0, .int .u8 0, .int .u8 0, .int .u8 0, .int .u8 0] 24)).alloc (.cells #[.bool false, .int .u8 0, .int .u8 0, .int .u8 0, .int .u8 0, .int .u8 0, .int .u8 0, .int .u8 0, .int .u8 0, .int .u8 0, .int .u8 0, .int .u8 0, .int .u8 0, .int .u8 0, .int .u8 0, .int .u8 0, .int .u8 0] 24)) (w.heap.size + 1) [.bool v, .int .u8 0, .int .u8 0, .int .u8 0, .int .u8 0, .int .u8 0, .int .u8 0, .int .u8 0, .int .u8 0, .int .u8 0, .int .u8 0, .int .u8 0, .int .u8 0, .int .u8 0, .int .u8 0, .int .u8 0, .int .u8 0]) v s 0 := by
  have h0 := (ObjAt.made w #[.bool false, .int .u8 0, .int .u8 0, .int .u8 0, .int .u8 0, .int .u8 0, .int .u8 0, .int .u8 0, .int .u8 0, .int .u8 0, .int .u8 0, .int .u8 0, .int .u8 0, .int .u8 0, .int .u8 0, .int .u8 0, .int .u8 0] 24).alloc (.cells #[.bool false, .int .u8 0, .int .u8 0, .int .u8 0, .int .u8 0, .int .u8 0, .int .u8 0, .int .u8 0, .int .u8 0, .int .u8 0, .int .u8 0, .int .u8 0, .int .u8 0, .int .u8 0, .int .u8 0, .int .u8 0, .int .u8 0] 24)
  have h1 := ObjAt.made (w.alloc (.cells #[.bool false, .int .u8 0, .int .u8 0, .int .u8 0, .int .u8 0, .int .u8 0, .int .u8 0, .int .u8 0, .int .u8 0, .int .u8 0, .int .u8 0, .int .u8 0, .int .u8 0, .int .u8 0, .int .u8 0, .int .u8 0, .int .u8 0] 24)) #[.bool false, .int .u8 0, .int .u8 0, .int .u8 0, .int .u8 0, .int .u8 0, .int .u8 0, .int .u8 0, .int .u8 0, .int .u8 0, .int .u8 0, .int .u8 0, .int .u8 0, .int .u8 0, .int .u8 0, .int .u8 0, .int .u8 0] 24
  have hz : (w.alloc (.cells #[.bool false, .int .u8 0, .int .u8 0, .int .u8 0, .int .u8 0, .int .u8 0, .int .u8 0, .int .u8 0, .int .u8 0, .int .u8 0, .int .u8 0, .int .u8 0, .int .u8 0, .int .u8 0, .int .u8 0, .int .u8 0, .int .u8 0] 24)).heap.size = w.heap.size + 1 := by simp
  rw [hz] at h1
  have hb : Below w.heap.size w ((w.alloc (.cells #[.bool false, .int .u8 0, .int .u8 0, .int .u8 0, .int .u8 0, .int .u8 0, .int .u8 0, .int .u8 0, .int .u8 0, .int .u8 0, .int .u8 0, .int .u8 0, .int .u8 0, .int .u8 0, .int .u8 0, .int .u8 0, .int .u8 0] 24)).alloc (.cells #[.bool false, .int .u8 0, .int .u8 0, .int .u8 0, .int .u8 0, .int .u8 0, .int .u8 0, .int .u8 0, .int .u8 0, .int .u8 0, .int .u8 0, .int .u8 0, .int .u8 0, .int .u8 0, .int .u8 0, .int .u8 0, .int .u8 0] 24)) := ((Below.refl _ _).alloc (Nat.le_refl _) _).alloc (by simp) _
  exact ⟨aggW_other h0 _ (by omega), aggW_obj (cs := [.bool v, .int .u8 0, .int .u8 0, .int .u8 0, .int .u8 0, .int .u8 0, .int .u8 0, .int .u8 0, .int .u8 0, .int .u8 0, .int .u8 0, .int .u8 0, .int .u8 0, .int .u8 0, .int .u8 0, .int .u8 0, .int .u8 0]) h1 rfl (addrC_one v (List.replicate 16 0)), aggW_below hb (by omega) _⟩
theorem RdS.done {w wr : World} {v : Bool} {s : List UInt8} {k : Nat} (h : RdS w wr v s k) (cs : List Value) (hc : cs.length = 17) : row? (aggW wr w.heap.size cs) w.heap.size 0 17 = some cs ∧ Below w.heap.size w (aggW wr w.heap.size cs) :=
  ⟨aggW_row h.free hc, aggW_below h.2.2 (Nat.le_refl _) _⟩
end Go.Proofs.Ytacnhelnpngkgaa

