/-
  The document's own text of an address of Ethernet.
-/
import Derived.Test.YtmpikhpnkfnnoaaGreatDoorNumr
import Derived.Test.YtmpikhpnkfnnoaaGreatDoorPrintb
namespace Go.Proofs.YtmpikhpnkfnnoaaGreatDoor
open Go.RowKit
set_option linter.unusedVariables false

theorem join_snoc (sep y : List UInt8) : ∀ xs : List (List UInt8), xs ≠ [] → Lib.join (xs ++ [y]) sep = Lib.join xs sep ++ (sep ++ y)
  | [], h => absurd rfl h
  | [x], _ => by simp [Lib.join, List.intercalate]
  | x :: z :: r, _ => by
    have ih := join_snoc sep y (z :: r) (by simp)
    have e1 : ∀ (a b : List UInt8) (t : List (List UInt8)), Lib.join (a :: b :: t) sep = a ++ (sep ++ Lib.join (b :: t) sep) := fun a b t => by simp [Lib.join, List.intercalate]
    rw [List.cons_append, List.cons_append, e1, ← List.cons_append, ih, e1]
    simp
def macP (l : List UInt8) (k : Nat) : List UInt8 := macT (l.take k)
theorem macP_step (l : List UInt8) (k : Nat) (hk : k < l.length) (h0 : 0 < k) : macP l (k + 1) = macP l k ++ (58 :: [digL ((l[k]).toNat / 16), digL ((l[k]).toNat % 16)]) := by
  unfold macP macT
  rw [List.take_succ_eq_append_getElem hk, List.map_append]
  have hne : (l.take k).map (fun b => hexL [b]) ≠ [] := by
    intro h
    have := congrArg List.length h
    rw [List.length_map, List.length_take, List.length_nil] at this
    omega
  rw [List.map_singleton, join_snoc _ _ _ hne]
  simp [hexL]
theorem macP_one (l : List UInt8) (hk : 0 < l.length) : macP l 1 = [digL ((l[0]).toNat / 16), digL ((l[0]).toNat % 16)] := by
  unfold macP macT
  rw [List.take_succ_eq_append_getElem hk]
  simp [Lib.join_one, hexL]
theorem macP_len (l : List UInt8) (k : Nat) : (macP l k).length ≤ 3 * k := by
  unfold macP macT
  have h := join_small ((l.take k).map fun b => hexL [b]) 58 2 (fun x hx => by
    obtain ⟨b, _, rfl⟩ := List.mem_map.1 hx
    simp [hexL])
  rw [List.length_map, List.length_take] at h
  omega

set_option maxRecDepth 100000 in
set_option maxHeartbeats 2000000 in
theorem rprintMac_any (m : List UInt8) (hm : m.length = 6) (w : World) : Calls Tryz.prog 28 #[.agg (B8 m).toArray] w fun x w' => x = .returned (.string (Str (macT m))) ∧ Below w.heap.size w w' := by
  have h0 : ObjAt (w.alloc (.cells (B8 m).toArray 28)) w.heap.size (B8 m).toArray 28 := ObjAt.made w _ _
  have HQ : Hid (RowAt (w.alloc (.cells (B8 m).toArray 28)) w.heap.size 0 m ∧ w.heap.size < (w.alloc (.cells (B8 m).toArray 28)).heap.size ∧ Below w.heap.size w (w.alloc (.cells (B8 m).toArray 28))) := Lib.hid ⟨fun i hi => by rw [h0.cell, List.getElem?_toArray, Nat.zero_add, B8_get, List.getElem?_eq_getElem hi]; rfl, h0.lt, (Below.refl _ _).alloc (Nat.le_refl _) _⟩
  clear h0
  have Hm := Lib.hid hm
  go_enter Tryz.func28, Tryz.ntmps28
  go_upto_region 1 with (fail)
  generalize w.alloc (.cells (B8 m).toArray 28) = W at HQ ⊢
  go_wp2_with fail
  go_loopw [3, 4] (fun t i wr => ∃ (k : Nat) (s : List UInt8), k ≤ 6 ∧ i = .int .i64 k ∧ t = .string (Str s) ∧ Hid (s = macP m k) ∧ RowAt wr w.heap.size 0 m ∧ w.heap.size < wr.heap.size ∧ Below w.heap.size w wr) (fun _ i _ => 6 - (intOf i).toNat)
  case atStart => exact ⟨0, [], by omega, rfl, rfl, Lib.hid rfl, HQ.out⟩
  case round _ _ wr =>
    obtain ⟨k, s, hk, rfl, rfl, hs, hq⟩ := hrel
    have Hq := Lib.hid hq; clear hq
    have hsl : s.length ≤ 18 := by have := macP_len m k; rw [← hs.out] at this; omega
    by_cases hlt : k < 6
    · have hc := Hq.out.1 k (by omega)
      rw [Nat.zero_add] at hc
      have HS0 : Hid (k = 0 → macP m (k + 1) = [digL ((m[k]'(by omega)).toNat / 16), digL ((m[k]'(by omega)).toNat % 16)]) := Lib.hid fun h => by subst h; exact macP_one m (by omega)
      have HS1 : Hid (0 < k → macP m (k + 1) = macP m k ++ (58 :: [digL ((m[k]'(by omega)).toNat / 16), digL ((m[k]'(by omega)).toNat % 16)])) := Lib.hid (macP_step m k (by omega))
      generalize (m[k]'(by omega)) = b at hc HS0 HS1
      have hb := b.toNat_lt
      have hd1 : (0 : Int) ≤ (b.toNat : Int) / 16 ∧ (b.toNat : Int) / 16 < 16 := by omega
      have hd3 : (0 : Int) ≤ (b.toNat : Int) % 16 ∧ (b.toNat : Int) % 16 < 16 := by omega
      have hwr : IntKind.u8.wrap ((b.toNat : Int) / 16) = (b.toNat : Int) / 16 := IntWalk.u8_in _ (by omega)
      have ed1 : ((b.toNat : Int) / 16).toNat = b.toNat / 16 := by omega
      have ed2 : ((b.toNat : Int) % 16).toNat = b.toNat % 16 := by omega
      rw [← ed1, ← ed2] at HS0 HS1
      clear ed1 ed2
      by_cases h0 : k = 0
      · subst h0
        have es : s = [] := hs.out
        subst es
        have HX := Lib.hid (HS0.out rfl)
        have hc1 := run_cat (P := Tryz.prog) [] [digL ((b.toNat : Int) / 16).toNat] (by simp)
        have hc2 := run_cat (P := Tryz.prog) [digL ((b.toNat : Int) / 16).toNat] [digL ((b.toNat : Int) % 16).toNat] (by simp)
        rw [List.nil_append] at hc1
        clear HS0 HS1
        go_wp2_with fail
        go_quiet (first | ((go_at_call 38; exact Calls.quiet_of_same (sign_int _ hd1.1 hd1.2 _))) | ((go_at_call 38; exact Calls.quiet_of_same (sign_int _ hd3.1 hd3.2 _))))
        go_wp2
        go_roundw
        case rel => exact ⟨1, _, by omega, by go_num, rfl, Lib.hid (by rw [HX.out]), Hq.out.1.drewN _, Hq.out.2.1, bdrewN Hq.out.2.2 _⟩
        case measure => simp [intOf]
      · have h0' : 0 < k := by omega
        have HX := Lib.hid (HS1.out h0')
        have hcc : ∀ w, (Op.stringOp .add (Str s) ⟨#[58]⟩).run Tryz.prog w = .ok (.string (Str (s ++ [58]))) w := fun w => run_cat (P := Tryz.prog) s [58] (by simp; try omega) w
        have hc1 := run_cat (P := Tryz.prog) (s ++ [58]) [digL ((b.toNat : Int) / 16).toNat] (by simp; try omega)
        have hc2 := run_cat (P := Tryz.prog) (s ++ ([58] ++ [digL ((b.toNat : Int) / 16).toNat])) [digL ((b.toNat : Int) % 16).toNat] (by simp; try omega)
        simp only [List.append_assoc, List.cons_append, List.nil_append] at hc1 hc2
        clear HS0 HS1
        go_wp2_with fail
        go_quiet (first | ((go_at_call 38; exact Calls.quiet_of_same (sign_int _ hd1.1 hd1.2 _))) | ((go_at_call 38; exact Calls.quiet_of_same (sign_int _ hd3.1 hd3.2 _))))
        go_wp2
        go_roundw
        case rel => exact ⟨k + 1, _, by omega, by go_num, rfl, Lib.hid (by rw [HX.out, ← hs.out]), Hq.out.1.drewN _, Hq.out.2.1, bdrewN Hq.out.2.2 _⟩
        case measure => simp [intOf]; omega
    · obtain rfl : k = 6 := by omega
      have e6 : s = macT m := by rw [hs.out]; unfold macP; rw [List.take_of_length_le (by omega)]
      have HE := Lib.hid e6
      clear e6
      go_wp2_with fail
      go_ret
      exact ⟨by rw [HE.out]; rfl, Hq.out.2.2⟩
end Go.Proofs.YtmpikhpnkfnnoaaGreatDoor
