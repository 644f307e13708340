/-
  The document's own text of an address.
-/
import Derived.Test.YtmpikhpnkfnnoaaGreatDoorRprm
import Derived.Test.YtmpikhpnkfnnoaaGreatDoorPureDig
import Derived.Test.YtmpikhpnkfnnoaaGreatDoorTell
namespace Go.Proofs.YtmpikhpnkfnnoaaGreatDoor
open Go.RowKit
set_option linter.unusedVariables false

theorem jn16_D (ws : List Nat) : jn16 ws = jnD D16 ws := rfl

/-- The boxed address, as the walk reads it. -/
def PB (w W : World) (l : List UInt8) : Prop := RowAt W w.heap.size 1 l ∧ w.heap.size < W.heap.size ∧ Below w.heap.size w W
theorem PB.drewN {w W : World} {l : List UInt8} (h : PB w W l) (k : Nat) : PB w (W.drewN k) l := ⟨h.1.drewN k, h.2.1, bdrewN h.2.2 k⟩

/-- Numbers of IPv4 so far. -/
def dotP (l : List UInt8) (k : Nat) : List UInt8 := jn10 ((l.take k).map (·.toNat))
theorem dotP_one (l : List UInt8) (h : 0 < l.length) : dotP l 1 = numD 10 (l[0]).toNat := by
  unfold dotP jn10
  rw [List.take_succ_eq_append_getElem h]
  simp [Lib.join_one]
theorem dotP_step (l : List UInt8) (k : Nat) (hk : k < l.length) (h0 : 0 < k) : dotP l (k + 1) = dotP l k ++ (46 :: numD 10 (l[k]).toNat) := by
  unfold dotP jn10
  rw [List.take_succ_eq_append_getElem hk, List.map_append, List.map_append]
  have hne : ((l.take k).map (·.toNat)).map (numD 10) ≠ [] := by
    intro h
    have := congrArg List.length h
    rw [List.length_map, List.length_map, List.length_take, List.length_nil] at this
    omega
  rw [List.map_singleton, List.map_singleton, join_snoc _ _ _ hne]
  simp
theorem dotP_len (l : List UInt8) (k : Nat) : (dotP l k).length ≤ 6 * k := by
  unfold dotP jn10
  have h := join_small (((l.take k).map (·.toNat)).map (numD 10)) 46 5 (fun x hx => by
    obtain ⟨b, _, rfl⟩ := List.mem_map.1 hx
    exact numD_length 10 b)
  rw [List.length_map, List.length_map, List.length_take] at h
  omega

set_option maxRecDepth 100000 in
set_option maxHeartbeats 2000000 in
theorem rprint4_any (l : List UInt8) (hl : l.length = 16) (w : World) : Calls Tryz.prog 26 #[.agg (addrC false l).toArray] w fun x w' => x = .returned (.string (Str (dotP l 4))) ∧ Below w.heap.size w w' := by
  have hB := BoxAt.made w false l hl 24
  have HQ : Hid (PB w (w.alloc (.cells (addrC false l).toArray 24)) l) := Lib.hid ⟨hB.2.1, hB.2.2.2.1, hB.2.2.2.2⟩
  have HF := Lib.hid hB.1
  clear hB
  have Hl := Lib.hid hl
  go_enter Tryz.func26, Tryz.ntmps26
  go_upto_region 2 with (fail)
  generalize w.alloc (.cells (addrC false l).toArray 24) = W at HQ HF ⊢
  have hfam := HF.out
  go_upto_region 4 with (fail)
  clear hfam
  go_loop [3, 4] (fun t i => ∃ (k : Nat) (s : List UInt8), k ≤ 4 ∧ i = .int .i64 k ∧ t = .string (Str s) ∧ Hid (s = dotP l k)) (fun _ i => 4 - (intOf i).toNat)
  case atStart => exact ⟨0, [], by omega, rfl, rfl, Lib.hid rfl⟩
  case round =>
    obtain ⟨k, s, hk, rfl, rfl, hs⟩ := hrel
    have hsl : s.length ≤ 24 := by have := dotP_len l k; rw [← hs.out] at this; omega
    by_cases hlt : k < 4
    · have hc := HQ.out.1 k (by omega)
      have HS0 : Hid (k = 0 → dotP l (k + 1) = numD 10 (l[k]'(by omega)).toNat) := Lib.hid fun h => by subst h; exact dotP_one l (by omega)
      have HS1 : Hid (0 < k → dotP l (k + 1) = dotP l k ++ (46 :: numD 10 (l[k]'(by omega)).toNat)) := Lib.hid (dotP_step l k (by omega))
      generalize (l[k]'(by omega)) = b at hc HS0 HS1
      have hb := b.toNat_lt
      have hbw : IntKind.i64.wrap (b.toNat : Int) = (b.toNat : Int) := by simp only [IntKind.wrap_i64]; omega
      have HN : Hid (∀ w, Calls Tryz.prog 35 #[.int .i64 (b.toNat : Int), .int .i64 10] w fun e w' => e = .returned (.string (Str (numD 10 b.toNat))) ∧ w = w') := Lib.hid fun w => (num10_any b.toNat (by omega) w).mono fun _ _ h => ⟨h.1, h.2.symm⟩
      have hn5 := numD_length 10 b.toNat
      generalize numD 10 b.toNat = d at HN HS0 HS1 hn5
      by_cases h0 : k = 0
      · subst h0
        have es : s = [] := hs.out
        subst es
        have HX := Lib.hid (HS0.out rfl)
        have hc1 := run_cat (P := Tryz.prog) [] d (by simp; omega)
        rw [List.nil_append] at hc1
        clear HS0 HS1
        go_wp2_with (go_at_call 35; (with_reducible refine (HN.out _).mono ?_); rintro x w1 ⟨rfl, rfl⟩)
        go_round
        case rel => exact ⟨1, _, by omega, by go_num, rfl, Lib.hid (by rw [HX.out])⟩
        case measure => simp [intOf]
      · have h0' : 0 < k := by omega
        have HX := Lib.hid (HS1.out h0')
        have hcc : ∀ w, (Op.stringOp .add (Str s) ⟨#[46]⟩).run Tryz.prog w = .ok (.string (Str (s ++ [46]))) w := fun w => run_cat (P := Tryz.prog) s [46] (by simp; omega) w
        have hc1 := run_cat (P := Tryz.prog) (s ++ [46]) d (by simp; omega)
        simp only [List.append_assoc, List.cons_append, List.nil_append] at hc1
        clear HS0 HS1
        go_wp2_with (go_at_call 35; (with_reducible refine (HN.out _).mono ?_); rintro x w1 ⟨rfl, rfl⟩)
        go_round
        case rel => exact ⟨k + 1, _, by omega, by go_num, rfl, Lib.hid (by rw [HX.out, ← hs.out])⟩
        case measure => simp [intOf]; omega
    · obtain rfl : k = 4 := by omega
      have HE := hs
      go_wp2_with fail
      go_ret
      exact ⟨by rw [← HE.out]; rfl, HQ.out.2.2⟩
end Go.Proofs.YtmpikhpnkfnnoaaGreatDoor
