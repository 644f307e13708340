/-
  The contract of strconv.ParseUint at base 10 (8 bits) and base 16 (16 bits).
-/
import Derived.Test.YtalnfjnfcloonaaGreatDoorMg25
import Derived.Test.YtalnfjnfcloonaaGreatDoorMg26
import Derived.Test.YtalnfjnfcloonaaGreatDoorShelf
import Derived.Lib.Strings
import Derived.Lib.ConvBytes
import Derived.Lib.Walk
import Derived.Lib.Hide
import Derived.Laws.Strings3
import Derived.Laws.Closers25
import Derived.Laws.Closers25b
import Derived.WalkKit
import Derived.BigCall
import Derived.BigGuard
import Derived.Deep.Cut
namespace Go.Proofs.YtalnfjnfcloonaaGreatDoor
open Go.RowKit
set_option linter.unusedVariables false

/-- A letter or a digit as a number. -/
def dig36 (c : Nat) : Option Nat := if 48 ≤ c ∧ c ≤ 57 then some (c - 48) else if 97 ≤ (c ||| 32) ∧ (c ||| 32) ≤ 122 then some ((c ||| 32) - 87) else none
/-- What a text of digits is to a base: the number, and 0; or what stands beside an error (1: too great, 2: no digits). -/
def puL (b mx : Nat) : Nat → List UInt8 → Nat × Nat
  | acc, [] => (acc, 0)
  | acc, c :: r => match dig36 c.toNat with
    | none => (0, 2)
    | some d => if b ≤ d then (0, 2) else if mx < acc * b + d then (mx, 1) else puL b mx (acc * b + d) r
def pu (b mx : Nat) (l : List UInt8) : Nat × Nat := if l = [] then (0, 2) else puL b mx 0 l
def errV (k : Nat) : Value := if k = 0 then .nilIface else .iface 136 (.int .i64 (k : Int))
theorem or32 (c : Nat) (hc : c < 256) : bits .or .u8 (c : Int) 32 = ((c ||| 32 : Nat) : Int) := by
  have h : ∀ x : Fin 256, bits .or .u8 ((x.val : Nat) : Int) 32 = ((x.val ||| 32 : Nat) : Int) := by decide +kernel
  exact h ⟨c, hc⟩
theorem or32_lt (c : Nat) (hc : c < 256) : c ||| 32 < 256 := Nat.or_lt_two_pow (n := 8) hc (by decide)
theorem lower_any (c : Nat) (hc : c < 256) (w : World) : Calls Tryz.prog 105 #[.int .u8 c] w fun e w' => e = .returned (.int .u8 ((c ||| 32 : Nat) : Int)) ∧ w' = w := by
  have h := Tryz.internal_strconv_lower (c : Int) w
  rw [or32 c hc] at h
  exact h
theorem lower_95 (w : World) : Calls Tryz.prog 105 #[.int .u8 95] w fun e w' => e = .returned (.int .u8 127) ∧ w' = w := lower_any 95 (by decide) w

set_option maxRecDepth 100000 in
theorem pu_empty_16 (w : World) : Calls Tryz.prog 80 #[.string (Str []), .int .i64 16, .int .i64 16] w fun e w' => e = .returned (.tuple #[.int .u64 0, errV 2]) ∧ Below w.heap.size w w' := by
  show Calls Tryz.prog 80 #[.string ⟨#[]⟩, .int .i64 16, .int .i64 16] w _
  go_enter Tryz.func80, Tryz.ntmps80
  go_wp2
  go_ret2
  exact ⟨rfl, Below.refl _ _⟩
set_option maxHeartbeats 8000000 in
set_option maxRecDepth 100000 in
theorem pu_some_16 (bs : List UInt8) (hne : bs ≠ []) (hmax : bs.length ≤ 1000000) (w : World) :
    Calls Tryz.prog 80 #[.string (Str bs), .int .i64 16, .int .i64 16] w fun e w' => e = .returned (.tuple #[.int .u64 ((puL 16 65535 0 bs).1 : Int), errV (puL 16 65535 0 bs).2]) ∧ Below w.heap.size w w' := by
  have hemp : (Str bs).toList.isEmpty = false := by
    cases bs with
    | nil => exact absurd rfl hne
    | cons a r => rw [← decide_eq_emptyBytes]; exact decide_eq_false (fun h => by have := congrArg ByteArray.size h; simp [Str_size] at this)
  have hcv := Lib.run_convert_string_bytes (P := Tryz.prog) w 9 45 5 (Str bs) (u := .string) Tryz.underlying9 Tryz.underlying45 Tryz.underlying5
  have hB : ∀ j, j < (Str bs).size → (Lib.bytesWorld w 5 (Str bs)).cell? ⟨w.heap.size, j, none⟩ = some (.int .u8 ((Str bs).data.toList.getD j 0).toNat) := fun j hj => Lib.bytesWorld_cell w 5 (Str bs) j hj
  have hbl : Below w.heap.size w (Lib.bytesWorld w 5 (Str bs)) := Lib.bytesWorld_below w 5 (Str bs)
  rw [Str_data] at hB
  have hsz := Str_size bs
  generalize Lib.bytesWorld w 5 (Str bs) = W1 at hcv hB hbl ⊢
  have Hbl := Lib.hid hbl
  rw [hsz] at hB hcv
  have hmv : IntKind.u64.wrap (IntKind.u64.wrap 65536 - 1) = 65535 := by decide +kernel
  have HB := Lib.hid hB
  clear hB hbl hne
  go_enter Tryz.func80, Tryz.ntmps80
  go_wp2
  go_loop [12, 13, 101] (fun vu vn vi => ∃ (k : Nat) (a : Int), vu = .bool false ∧ vn = .int .u64 a ∧ vi = .int .i64 k ∧ k ≤ bs.length ∧ 0 ≤ a ∧ a ≤ 65535 ∧ Hid (puL 16 65535 0 bs = puL 16 65535 a.toNat (bs.drop k)))
    (fun _ _ vi => bs.length - (intOf vi).toNat)
  case atStart => exact ⟨0, 0, rfl, rfl, rfl, by omega, by omega, by omega, Lib.hid rfl⟩
  case round =>
    obtain ⟨k, a, rfl, rfl, rfl, hk, ha0, ha1, hh⟩ := hrel
    by_cases hkn : k < bs.length
    · have hc := HB.out k hkn
      have hdrop : bs.drop k = bs[k]'hkn :: bs.drop (k + 1) := List.drop_eq_getElem_cons hkn
      have hget : bs.getD k 0 = bs[k]'hkn := by simp [List.getD, List.getElem?_eq_getElem hkn]
      have Hd := Lib.hid (hh.out.trans (congrArg _ hdrop))
      rw [hget] at hc
      clear hdrop hget hh
      generalize bs[k]'hkn = c at hc Hd
      have hc256 : c.toNat < 256 := c.toNat_lt
      have hlow := or32_lt c.toNat hc256
      cases hx : dig36 c.toNat with
      | none =>
        have Hr := Lib.hid (show puL 16 65535 0 bs = (0, 2) by rw [Hd.out, puL, hx])
        have hn1 : ¬ (48 ≤ c.toNat ∧ c.toNat ≤ 57) := by intro h; simp [dig36, h] at hx
        have hn2 : ¬ (97 ≤ (c.toNat ||| 32) ∧ (c.toNat ||| 32) ≤ 122) := by intro h; simp [dig36, hn1, h] at hx
        clear hx
        generalize hl : c.toNat ||| 32 = lo at hlow hn2
        have Hl := Lib.hid hl; clear hl
        go_wp2_with (first | (go_at_call 105; refine (lower_any _ hc256 _).mono ?_; rintro e w' ⟨rfl, rfl⟩; rw [Hl.out]) | (go_at_call 105; refine (lower_95 _).mono ?_; rintro e w' ⟨rfl, rfl⟩))
        all_goals go_ret2
        all_goals exact ⟨by rw [Hr.out]; rfl, Hbl.out⟩
      | some d =>
        have hd36 : d < 36 := by
          unfold dig36 at hx
          split at hx
          · simp at hx; omega
          · split at hx <;> simp at hx; omega
        have hne95 : ((c.toNat : Int) == 95) = false := by
          cases h : ((c.toNat : Int) == 95) with
          | false => rfl
          | true =>
            have h' : c.toNat = 95 := by have := beq_iff_eq.1 h; omega
            rw [h'] at hx
            have hn : dig36 95 = none := by decide
            rw [hn] at hx
            cases hx
        by_cases hdb : 16 ≤ d
        · have Hr := Lib.hid (show puL 16 65535 0 bs = (0, 2) by rw [Hd.out, puL, hx]; simp [hdb])
          by_cases hdig : 48 ≤ c.toNat ∧ c.toNat ≤ 57
          · obtain ⟨g0, g1⟩ := hdig
            have hd : d = c.toNat - 48 := by simp [dig36, g0, g1] at hx; omega
            have hi : 16 ≤ (c.toNat : Int) - 48 := by omega
            clear hx hd
            go_wp2
            all_goals go_ret2
            all_goals exact ⟨by rw [Hr.out]; rfl, Hbl.out⟩
          · obtain ⟨g0, g1⟩ : 97 ≤ (c.toNat ||| 32) ∧ (c.toNat ||| 32) ≤ 122 := by
              unfold dig36 at hx
              rw [if_neg hdig] at hx
              split at hx
              · assumption
              · simp at hx
            have hd : d = (c.toNat ||| 32) - 87 := by simp [dig36, hdig, g0, g1] at hx; omega
            clear hx
            generalize hl : c.toNat ||| 32 = lo at hlow g0 g1 hd
            have Hl := Lib.hid hl; clear hl
            have hi : 16 ≤ (lo : Int) - 97 + 10 := by omega
            clear hd
            go_wp2_with (first | (go_at_call 105; refine (lower_any _ hc256 _).mono ?_; rintro e w' ⟨rfl, rfl⟩; rw [Hl.out]) | (go_at_call 105; refine (lower_95 _).mono ?_; rintro e w' ⟨rfl, rfl⟩))
            all_goals go_ret2
            all_goals exact ⟨by rw [Hr.out]; rfl, Hbl.out⟩
        · by_cases hov : 65535 < a.toNat * 16 + d
          · have Hr := Lib.hid (show puL 16 65535 0 bs = (65535, 1) by rw [Hd.out, puL, hx]; simp [hdb, hov])
            by_cases hdig : 48 ≤ c.toNat ∧ c.toNat ≤ 57
            · obtain ⟨g0, g1⟩ := hdig
              have hd : d = c.toNat - 48 := by simp [dig36, g0, g1] at hx; omega
              have hi : (c.toNat : Int) - 48 < 16 := by omega
              have hi2 : 65535 < a * 16 + ((c.toNat : Int) - 48) := by omega
              clear hx hd hov hdb
              go_wp2
              all_goals go_ret2
              all_goals exact ⟨by rw [Hr.out]; rfl, Hbl.out⟩
            · obtain ⟨g0, g1⟩ : 97 ≤ (c.toNat ||| 32) ∧ (c.toNat ||| 32) ≤ 122 := by
                unfold dig36 at hx
                rw [if_neg hdig] at hx
                split at hx
                · assumption
                · simp at hx
              have hd : d = (c.toNat ||| 32) - 87 := by simp [dig36, hdig, g0, g1] at hx; omega
              clear hx
              generalize hl : c.toNat ||| 32 = lo at hlow g0 g1 hd
              have Hl := Lib.hid hl; clear hl
              have hi : (lo : Int) - 97 + 10 < 16 := by omega
              have hi2 : 65535 < a * 16 + ((lo : Int) - 97 + 10) := by omega
              clear hd hov hdb
              go_wp2_with (first | (go_at_call 105; refine (lower_any _ hc256 _).mono ?_; rintro e w' ⟨rfl, rfl⟩; rw [Hl.out]) | (go_at_call 105; refine (lower_95 _).mono ?_; rintro e w' ⟨rfl, rfl⟩))
              all_goals go_ret2
              all_goals exact ⟨by rw [Hr.out]; rfl, Hbl.out⟩
          · have HN := Lib.hid (show puL 16 65535 0 bs = puL 16 65535 (a.toNat * 16 + d) (bs.drop (k + 1)) by rw [Hd.out, puL, hx]; simp [hdb, hov])
            by_cases hdig : 48 ≤ c.toNat ∧ c.toNat ≤ 57
            · obtain ⟨g0, g1⟩ := hdig
              have hd : d = c.toNat - 48 := by simp [dig36, g0, g1] at hx; omega
              have hi : (c.toNat : Int) - 48 < 16 := by omega
              have hi2 : a * 16 + ((c.toNat : Int) - 48) ≤ 65535 := by omega
              have he : (a * 16 + ((c.toNat : Int) - 48)).toNat = a.toNat * 16 + d := by omega
              have HM := Lib.hid (show puL 16 65535 0 bs = puL 16 65535 (a * 16 + ((c.toNat : Int) - 48)).toNat (bs.drop (k + 1)) by rw [he]; exact HN.out)
              clear he HN
              clear hx hd hov hdb
              go_wp2
              all_goals refine ⟨⟨k + 1, _, rfl, rfl, (by first | rfl | (congr 1; omega)), by omega, by omega, by omega, HM⟩, by simp [intOf]; omega⟩
            · obtain ⟨g0, g1⟩ : 97 ≤ (c.toNat ||| 32) ∧ (c.toNat ||| 32) ≤ 122 := by
                unfold dig36 at hx
                rw [if_neg hdig] at hx
                split at hx
                · assumption
                · simp at hx
              have hd : d = (c.toNat ||| 32) - 87 := by simp [dig36, hdig, g0, g1] at hx; omega
              clear hx
              generalize hl : c.toNat ||| 32 = lo at hlow g0 g1 hd
              have Hl := Lib.hid hl; clear hl
              have hi : (lo : Int) - 97 + 10 < 16 := by omega
              have hi2 : a * 16 + ((lo : Int) - 97 + 10) ≤ 65535 := by omega
              have he : (a * 16 + ((lo : Int) - 97 + 10)).toNat = a.toNat * 16 + d := by omega
              have HM := Lib.hid (show puL 16 65535 0 bs = puL 16 65535 (a * 16 + ((lo : Int) - 97 + 10)).toNat (bs.drop (k + 1)) by rw [he]; exact HN.out)
              clear he HN
              clear hd hov hdb
              go_wp2_with (first | (go_at_call 105; refine (lower_any _ hc256 _).mono ?_; rintro e w' ⟨rfl, rfl⟩; rw [Hl.out]) | (go_at_call 105; refine (lower_95 _).mono ?_; rintro e w' ⟨rfl, rfl⟩))
              all_goals refine ⟨⟨k + 1, _, rfl, rfl, (by first | rfl | (congr 1; omega)), by omega, by omega, by omega, HM⟩, by simp [intOf]; omega⟩
    · have hkk : k = bs.length := by omega
      have Hr := Lib.hid (show puL 16 65535 0 bs = (a.toNat, 0) by rw [hh.out, List.drop_eq_nil_of_le (by omega)]; rfl)
      clear hh
      subst hkk
      have Ht := Lib.hid (Int.toNat_of_nonneg ha0)
      go_wp2
      all_goals go_ret2
      all_goals exact ⟨by rw [Hr.out]; show _ = Ending.returned (.tuple #[.int .u64 ((a.toNat : Nat) : Int), errV 0]); rw [Ht.out]; rfl, Hbl.out⟩

set_option maxRecDepth 100000 in
theorem pu_empty_10 (w : World) : Calls Tryz.prog 80 #[.string (Str []), .int .i64 10, .int .i64 8] w fun e w' => e = .returned (.tuple #[.int .u64 0, errV 2]) ∧ Below w.heap.size w w' := by
  show Calls Tryz.prog 80 #[.string ⟨#[]⟩, .int .i64 10, .int .i64 8] w _
  go_enter Tryz.func80, Tryz.ntmps80
  go_wp2
  go_ret2
  exact ⟨rfl, Below.refl _ _⟩
set_option maxHeartbeats 8000000 in
set_option maxRecDepth 100000 in
theorem pu_some_10 (bs : List UInt8) (hne : bs ≠ []) (hmax : bs.length ≤ 1000000) (w : World) :
    Calls Tryz.prog 80 #[.string (Str bs), .int .i64 10, .int .i64 8] w fun e w' => e = .returned (.tuple #[.int .u64 ((puL 10 255 0 bs).1 : Int), errV (puL 10 255 0 bs).2]) ∧ Below w.heap.size w w' := by
  have hemp : (Str bs).toList.isEmpty = false := by
    cases bs with
    | nil => exact absurd rfl hne
    | cons a r => rw [← decide_eq_emptyBytes]; exact decide_eq_false (fun h => by have := congrArg ByteArray.size h; simp [Str_size] at this)
  have hcv := Lib.run_convert_string_bytes (P := Tryz.prog) w 9 45 5 (Str bs) (u := .string) Tryz.underlying9 Tryz.underlying45 Tryz.underlying5
  have hB : ∀ j, j < (Str bs).size → (Lib.bytesWorld w 5 (Str bs)).cell? ⟨w.heap.size, j, none⟩ = some (.int .u8 ((Str bs).data.toList.getD j 0).toNat) := fun j hj => Lib.bytesWorld_cell w 5 (Str bs) j hj
  have hbl : Below w.heap.size w (Lib.bytesWorld w 5 (Str bs)) := Lib.bytesWorld_below w 5 (Str bs)
  rw [Str_data] at hB
  have hsz := Str_size bs
  generalize Lib.bytesWorld w 5 (Str bs) = W1 at hcv hB hbl ⊢
  have Hbl := Lib.hid hbl
  rw [hsz] at hB hcv
  have hmv : IntKind.u64.wrap (IntKind.u64.wrap 256 - 1) = 255 := by decide +kernel
  have HB := Lib.hid hB
  clear hB hbl hne
  go_enter Tryz.func80, Tryz.ntmps80
  go_wp2
  go_loop [12, 13, 101] (fun vu vn vi => ∃ (k : Nat) (a : Int), vu = .bool false ∧ vn = .int .u64 a ∧ vi = .int .i64 k ∧ k ≤ bs.length ∧ 0 ≤ a ∧ a ≤ 255 ∧ Hid (puL 10 255 0 bs = puL 10 255 a.toNat (bs.drop k)))
    (fun _ _ vi => bs.length - (intOf vi).toNat)
  case atStart => exact ⟨0, 0, rfl, rfl, rfl, by omega, by omega, by omega, Lib.hid rfl⟩
  case round =>
    obtain ⟨k, a, rfl, rfl, rfl, hk, ha0, ha1, hh⟩ := hrel
    by_cases hkn : k < bs.length
    · have hc := HB.out k hkn
      have hdrop : bs.drop k = bs[k]'hkn :: bs.drop (k + 1) := List.drop_eq_getElem_cons hkn
      have hget : bs.getD k 0 = bs[k]'hkn := by simp [List.getD, List.getElem?_eq_getElem hkn]
      have Hd := Lib.hid (hh.out.trans (congrArg _ hdrop))
      rw [hget] at hc
      clear hdrop hget hh
      generalize bs[k]'hkn = c at hc Hd
      have hc256 : c.toNat < 256 := c.toNat_lt
      have hlow := or32_lt c.toNat hc256
      cases hx : dig36 c.toNat with
      | none =>
        have Hr := Lib.hid (show puL 10 255 0 bs = (0, 2) by rw [Hd.out, puL, hx])
        have hn1 : ¬ (48 ≤ c.toNat ∧ c.toNat ≤ 57) := by intro h; simp [dig36, h] at hx
        have hn2 : ¬ (97 ≤ (c.toNat ||| 32) ∧ (c.toNat ||| 32) ≤ 122) := by intro h; simp [dig36, hn1, h] at hx
        clear hx
        generalize hl : c.toNat ||| 32 = lo at hlow hn2
        have Hl := Lib.hid hl; clear hl
        go_wp2_with (first | (go_at_call 105; refine (lower_any _ hc256 _).mono ?_; rintro e w' ⟨rfl, rfl⟩; rw [Hl.out]) | (go_at_call 105; refine (lower_95 _).mono ?_; rintro e w' ⟨rfl, rfl⟩))
        all_goals go_ret2
        all_goals exact ⟨by rw [Hr.out]; rfl, Hbl.out⟩
      | some d =>
        have hd36 : d < 36 := by
          unfold dig36 at hx
          split at hx
          · simp at hx; omega
          · split at hx <;> simp at hx; omega
        have hne95 : ((c.toNat : Int) == 95) = false := by
          cases h : ((c.toNat : Int) == 95) with
          | false => rfl
          | true =>
            have h' : c.toNat = 95 := by have := beq_iff_eq.1 h; omega
            rw [h'] at hx
            have hn : dig36 95 = none := by decide
            rw [hn] at hx
            cases hx
        by_cases hdb : 10 ≤ d
        · have Hr := Lib.hid (show puL 10 255 0 bs = (0, 2) by rw [Hd.out, puL, hx]; simp [hdb])
          by_cases hdig : 48 ≤ c.toNat ∧ c.toNat ≤ 57
          · obtain ⟨g0, g1⟩ := hdig
            have hd : d = c.toNat - 48 := by simp [dig36, g0, g1] at hx; omega
            have hi : 10 ≤ (c.toNat : Int) - 48 := by omega
            clear hx hd
            go_wp2
            all_goals go_ret2
            all_goals exact ⟨by rw [Hr.out]; rfl, Hbl.out⟩
          · obtain ⟨g0, g1⟩ : 97 ≤ (c.toNat ||| 32) ∧ (c.toNat ||| 32) ≤ 122 := by
              unfold dig36 at hx
              rw [if_neg hdig] at hx
              split at hx
              · assumption
              · simp at hx
            have hd : d = (c.toNat ||| 32) - 87 := by simp [dig36, hdig, g0, g1] at hx; omega
            clear hx
            generalize hl : c.toNat ||| 32 = lo at hlow g0 g1 hd
            have Hl := Lib.hid hl; clear hl
            have hi : 10 ≤ (lo : Int) - 97 + 10 := by omega
            clear hd
            go_wp2_with (first | (go_at_call 105; refine (lower_any _ hc256 _).mono ?_; rintro e w' ⟨rfl, rfl⟩; rw [Hl.out]) | (go_at_call 105; refine (lower_95 _).mono ?_; rintro e w' ⟨rfl, rfl⟩))
            all_goals go_ret2
            all_goals exact ⟨by rw [Hr.out]; rfl, Hbl.out⟩
        · by_cases hov : 255 < a.toNat * 10 + d
          · have Hr := Lib.hid (show puL 10 255 0 bs = (255, 1) by rw [Hd.out, puL, hx]; simp [hdb, hov])
            by_cases hdig : 48 ≤ c.toNat ∧ c.toNat ≤ 57
            · obtain ⟨g0, g1⟩ := hdig
              have hd : d = c.toNat - 48 := by simp [dig36, g0, g1] at hx; omega
              have hi : (c.toNat : Int) - 48 < 10 := by omega
              have hi2 : 255 < a * 10 + ((c.toNat : Int) - 48) := by omega
              clear hx hd hov hdb
              go_wp2
              all_goals go_ret2
              all_goals exact ⟨by rw [Hr.out]; rfl, Hbl.out⟩
            · obtain ⟨g0, g1⟩ : 97 ≤ (c.toNat ||| 32) ∧ (c.toNat ||| 32) ≤ 122 := by
                unfold dig36 at hx
                rw [if_neg hdig] at hx
                split at hx
                · assumption
                · simp at hx
              have hd : d = (c.toNat ||| 32) - 87 := by simp [dig36, hdig, g0, g1] at hx; omega
              clear hx
              generalize hl : c.toNat ||| 32 = lo at hlow g0 g1 hd
              have Hl := Lib.hid hl; clear hl
              have hi : (lo : Int) - 97 + 10 < 10 := by omega
              have hi2 : 255 < a * 10 + ((lo : Int) - 97 + 10) := by omega
              clear hd hov hdb
              go_wp2_with (first | (go_at_call 105; refine (lower_any _ hc256 _).mono ?_; rintro e w' ⟨rfl, rfl⟩; rw [Hl.out]) | (go_at_call 105; refine (lower_95 _).mono ?_; rintro e w' ⟨rfl, rfl⟩))
              all_goals go_ret2
              all_goals exact ⟨by rw [Hr.out]; rfl, Hbl.out⟩
          · have HN := Lib.hid (show puL 10 255 0 bs = puL 10 255 (a.toNat * 10 + d) (bs.drop (k + 1)) by rw [Hd.out, puL, hx]; simp [hdb, hov])
            by_cases hdig : 48 ≤ c.toNat ∧ c.toNat ≤ 57
            · obtain ⟨g0, g1⟩ := hdig
              have hd : d = c.toNat - 48 := by simp [dig36, g0, g1] at hx; omega
              have hi : (c.toNat : Int) - 48 < 10 := by omega
              have hi2 : a * 10 + ((c.toNat : Int) - 48) ≤ 255 := by omega
              have he : (a * 10 + ((c.toNat : Int) - 48)).toNat = a.toNat * 10 + d := by omega
              have HM := Lib.hid (show puL 10 255 0 bs = puL 10 255 (a * 10 + ((c.toNat : Int) - 48)).toNat (bs.drop (k + 1)) by rw [he]; exact HN.out)
              clear he HN
              clear hx hd hov hdb
              go_wp2
              all_goals refine ⟨⟨k + 1, _, rfl, rfl, (by first | rfl | (congr 1; omega)), by omega, by omega, by omega, HM⟩, by simp [intOf]; omega⟩
            · obtain ⟨g0, g1⟩ : 97 ≤ (c.toNat ||| 32) ∧ (c.toNat ||| 32) ≤ 122 := by
                unfold dig36 at hx
                rw [if_neg hdig] at hx
                split at hx
                · assumption
                · simp at hx
              have hd : d = (c.toNat ||| 32) - 87 := by simp [dig36, hdig, g0, g1] at hx; omega
              clear hx
              generalize hl : c.toNat ||| 32 = lo at hlow g0 g1 hd
              have Hl := Lib.hid hl; clear hl
              have hi : (lo : Int) - 97 + 10 < 10 := by omega
              have hi2 : a * 10 + ((lo : Int) - 97 + 10) ≤ 255 := by omega
              have he : (a * 10 + ((lo : Int) - 97 + 10)).toNat = a.toNat * 10 + d := by omega
              have HM := Lib.hid (show puL 10 255 0 bs = puL 10 255 (a * 10 + ((lo : Int) - 97 + 10)).toNat (bs.drop (k + 1)) by rw [he]; exact HN.out)
              clear he HN
              clear hd hov hdb
              go_wp2_with (first | (go_at_call 105; refine (lower_any _ hc256 _).mono ?_; rintro e w' ⟨rfl, rfl⟩; rw [Hl.out]) | (go_at_call 105; refine (lower_95 _).mono ?_; rintro e w' ⟨rfl, rfl⟩))
              all_goals refine ⟨⟨k + 1, _, rfl, rfl, (by first | rfl | (congr 1; omega)), by omega, by omega, by omega, HM⟩, by simp [intOf]; omega⟩
    · have hkk : k = bs.length := by omega
      have Hr := Lib.hid (show puL 10 255 0 bs = (a.toNat, 0) by rw [hh.out, List.drop_eq_nil_of_le (by omega)]; rfl)
      clear hh
      subst hkk
      have Ht := Lib.hid (Int.toNat_of_nonneg ha0)
      go_wp2
      all_goals go_ret2
      all_goals exact ⟨by rw [Hr.out]; show _ = Ending.returned (.tuple #[.int .u64 ((a.toNat : Nat) : Int), errV 0]); rw [Ht.out]; rfl, Hbl.out⟩
theorem puL_code (b mx : Nat) : ∀ (l : List UInt8) (acc : Nat), (puL b mx acc l).2 ≤ 2
  | [], _ => by simp [puL]
  | c :: r, acc => by
    unfold puL
    split
    · simp
    · split
      · simp
      · split
        · simp
        · exact puL_code b mx r _
theorem puL_le (b mx : Nat) : ∀ (l : List UInt8) (acc : Nat), acc ≤ mx → (puL b mx acc l).1 ≤ mx
  | [], _, h => h
  | c :: r, acc, h => by
    unfold puL
    split
    · simp
    · split
      · simp
      · split
        · simp
        · exact puL_le b mx r _ (by omega)
theorem pu_le (b mx : Nat) (l : List UInt8) : (pu b mx l).1 ≤ mx := by
  unfold pu
  split
  · simp
  · exact puL_le b mx l 0 (by omega)
theorem pu_code (b mx : Nat) (l : List UInt8) : (pu b mx l).2 ≤ 2 := by
  unfold pu
  split
  · simp
  · exact puL_code b mx l 0
theorem pub0 (s : ByteArray) (b n : Nat) (bi : Int) (HC : Hid (∀ w, Calls Tryz.prog 80 #[.string s, .int .i64 b, .int .i64 bi] w fun e w' => e = .returned (.tuple #[.int .u64 (n : Int), .nilIface]) ∧ Below w.heap.size w w')) (w : World) :
    Calls Tryz.prog 61 #[.string s, .int .i64 b, .int .i64 bi] w fun e w' => ∃ ev, e = .returned (.tuple #[.int .u64 (n : Int), ev]) ∧ Below w.heap.size w w' := by
  go_enter Tryz.func61, Tryz.ntmps61
  go_wp2_with (go_at_call 80; refine (HC.out _).mono ?_; rintro e w1 ⟨rfl, hb1⟩; have Hb1 := Lib.hid hb1; clear hb1)
  go_ret2
  exact ⟨_, rfl, Hb1.out⟩

theorem pub_syn (s : ByteArray) (hs : s.size ≤ 1000000) (b n : Nat) (bi : Int) (HC : Hid (∀ w, Calls Tryz.prog 80 #[.string s, .int .i64 b, .int .i64 bi] w fun e w' => e = .returned (.tuple #[.int .u64 (n : Int), .iface 136 (.int .i64 2)]) ∧ Below w.heap.size w w')) (w : World) (h : Env w) :
    Calls Tryz.prog 61 #[.string s, .int .i64 b, .int .i64 bi] w fun e w' => ∃ ev, e = .returned (.tuple #[.int .u64 (n : Int), ev]) ∧ Below w.heap.size w w' := by
  have HE := Lib.hid h; clear h
  go_enter Tryz.func61, Tryz.ntmps61
  go_wp2_with (first
    | (go_at_call 80; refine (HC.out _).mono ?_; rintro e w1 ⟨rfl, hb1⟩; have Hb1 := Lib.hid hb1; clear hb1)
    | (go_at_call 81; obtain ⟨te, pe, hv⟩ := (HE.out.below Hb1.out).syn; refine (Tryz.strconv_toError_syntax _ s _ _ (.iface te pe) _ (by omega) hv (.inr ⟨_, _, rfl⟩)).mono ?_; rintro e w2 ⟨N, rfl, -, -, hb2⟩; have Hb2 := Lib.hid (bstep Hb1.out hb2); clear hb2 hv))
  go_ret2
  exact ⟨_, rfl, Hb2.out⟩

theorem pub_rng (s : ByteArray) (hs : s.size ≤ 1000000) (b n : Nat) (bi : Int) (HC : Hid (∀ w, Calls Tryz.prog 80 #[.string s, .int .i64 b, .int .i64 bi] w fun e w' => e = .returned (.tuple #[.int .u64 (n : Int), .iface 136 (.int .i64 1)]) ∧ Below w.heap.size w w')) (w : World) (h : Env w) :
    Calls Tryz.prog 61 #[.string s, .int .i64 b, .int .i64 bi] w fun e w' => ∃ ev, e = .returned (.tuple #[.int .u64 (n : Int), ev]) ∧ Below w.heap.size w w' := by
  have HE := Lib.hid h; clear h
  go_enter Tryz.func61, Tryz.ntmps61
  go_wp2_with (first
    | (go_at_call 80; refine (HC.out _).mono ?_; rintro e w1 ⟨rfl, hb1⟩; have Hb1 := Lib.hid hb1; clear hb1)
    | (go_at_call 81; obtain ⟨te, pe, hv⟩ := (HE.out.below Hb1.out).rng; refine (Tryz.strconv_toError_range _ s _ _ (.iface te pe) _ (by omega) hv (.inr ⟨_, _, rfl⟩)).mono ?_; rintro e w2 ⟨N, rfl, -, -, hb2⟩; have Hb2 := Lib.hid (bstep Hb1.out hb2); clear hb2 hv))
  go_ret2
  exact ⟨_, rfl, Hb2.out⟩

theorem parse_16 (bs : List UInt8) (hmax : bs.length ≤ 1000000) (w : World) (h : Env w) :
    Calls Tryz.prog 61 #[.string (Str bs), .int .i64 16, .int .i64 16] w fun e w' => ∃ ev, e = .returned (.tuple #[.int .u64 ((pu 16 65535 bs).1 : Int), ev]) ∧ Below w.heap.size w w' := by
  have hc : ∀ w, Calls Tryz.prog 80 #[.string (Str bs), .int .i64 16, .int .i64 16] w fun e w' => e = .returned (.tuple #[.int .u64 ((pu 16 65535 bs).1 : Int), errV (pu 16 65535 bs).2]) ∧ Below w.heap.size w w' := fun w => by
    by_cases h0 : bs = []
    · subst h0; exact pu_empty_16 w
    · unfold pu; rw [if_neg h0]; exact pu_some_16 bs h0 hmax w
  have hk := pu_code 16 65535 bs
  generalize (pu 16 65535 bs).1 = n at hc ⊢
  generalize (pu 16 65535 bs).2 = k at hc hk
  match k, hk with
  | 0, _ => exact pub0 (Str bs) 16 n 16 (Lib.hid hc) w
  | 1, _ => exact pub_rng (Str bs) (by rw [Str_size]; exact hmax) 16 n 16 (Lib.hid hc) w h
  | 2, _ => exact pub_syn (Str bs) (by rw [Str_size]; exact hmax) 16 n 16 (Lib.hid hc) w h

theorem parse_10 (bs : List UInt8) (hmax : bs.length ≤ 1000000) (w : World) (h : Env w) :
    Calls Tryz.prog 61 #[.string (Str bs), .int .i64 10, .int .i64 8] w fun e w' => ∃ ev, e = .returned (.tuple #[.int .u64 ((pu 10 255 bs).1 : Int), ev]) ∧ Below w.heap.size w w' := by
  have hc : ∀ w, Calls Tryz.prog 80 #[.string (Str bs), .int .i64 10, .int .i64 8] w fun e w' => e = .returned (.tuple #[.int .u64 ((pu 10 255 bs).1 : Int), errV (pu 10 255 bs).2]) ∧ Below w.heap.size w w' := fun w => by
    by_cases h0 : bs = []
    · subst h0; exact pu_empty_10 w
    · unfold pu; rw [if_neg h0]; exact pu_some_10 bs h0 hmax w
  have hk := pu_code 10 255 bs
  generalize (pu 10 255 bs).1 = n at hc ⊢
  generalize (pu 10 255 bs).2 = k at hc hk
  match k, hk with
  | 0, _ => exact pub0 (Str bs) 10 n 8 (Lib.hid hc) w
  | 1, _ => exact pub_rng (Str bs) (by rw [Str_size]; exact hmax) 10 n 8 (Lib.hid hc) w h
  | 2, _ => exact pub_syn (Str bs) (by rw [Str_size]; exact hmax) 10 n 8 (Lib.hid hc) w h
end Go.Proofs.YtalnfjnfcloonaaGreatDoor
