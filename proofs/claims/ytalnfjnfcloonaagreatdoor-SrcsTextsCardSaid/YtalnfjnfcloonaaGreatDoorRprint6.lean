/-
  The document's own text of an address of IPv6, and of any.
-/
import Derived.Test.YtalnfjnfcloonaaGreatDoorMg35
namespace Go.Proofs.YtalnfjnfcloonaaGreatDoor
open Go.RowKit
set_option linter.unusedVariables false

theorem str_last (p : List UInt8) (c : UInt8) (h : p.length < (Str (p ++ [c])).size) : (Str (p ++ [c]))[p.length]'h = c := by
  have h' : p.length < (p ++ [c]).toArray.size := by simp
  show (p ++ [c]).toArray[p.length]'h' = c
  simp
theorem gap_what (l : List UInt8) : ∃ (p : Int) (n a : Nat), scanZ (wordsV l) 8 = (p, n) ∧ (∀ i : Nat, i ≤ 8 → ((i : Int) == p) = decide (i = a)) ∧ (1 ≤ n ∧ n ≤ 8) ∧ (a + n ≤ 8 ∨ a = 100) ∧ (∀ s, PrS D16 (wordsV l) a n 8 s → s = prt6 l) := by
  have hw := wordsV_length l
  rcases scan_gap (wordsV l) hw with ⟨h1, h2⟩ | ⟨h1, h2, h3⟩
  · refine ⟨-1, 1, 100, h2, fun i hi => ?_, ⟨by omega, by omega⟩, .inr rfl, fun s hs => ?_⟩
    · rw [Bool.eq_iff_iff]; simp; omega
    · rw [(hs.done hw).1 (by omega)]
      unfold prt6
      rw [if_pos h1]; rfl
  · have hle := (gapK_le (wordsV l) 8).2.2
    refine ⟨_, _, (gapK (wordsV l) 8).1, h2, fun i hi => ?_, ⟨by omega, by omega⟩, .inl h3, fun s hs => ?_⟩
    · rw [Bool.eq_iff_iff]; simp; omega
    · rw [(hs.done hw).2 (by omega)]
      unfold prt6
      rw [if_neg (by omega)]; rfl
theorem words_at (l : List UInt8) (q : Nat) (hq : q < 8) (h1 : 2 * q < l.length) (h2 : 2 * q + 1 < l.length) : (wordsV l)[q]? = some ((l[2 * q]).toNat * 256 + (l[2 * q + 1]).toNat) := by
  rw [wordsV_get l q hq]
  unfold wrd
  rw [List.getD_eq_getElem?_getD, List.getD_eq_getElem?_getD, List.getElem?_eq_getElem h1, List.getElem?_eq_getElem h2]
  rfl

set_option maxRecDepth 100000 in
set_option maxHeartbeats 8000000 in
theorem rprint6_any (l : List UInt8) (hl : l.length = 16) (w : World) : Calls Tryz.prog 16 #[.agg (addrC true l).toArray] w fun x w' => x = .returned (.string (Str (prt6 l))) ∧ Below w.heap.size w w' := by
  have hB := BoxAt.made w true l hl 36
  have HQ : Hid (PB w (w.alloc (.cells (addrC true l).toArray 36)) l) := Lib.hid ⟨hB.2.1, hB.2.2.2.1, hB.2.2.2.2⟩
  have HF := Lib.hid hB.1
  clear hB
  have Hl := Lib.hid hl
  have hw8 := wordsV_length l
  obtain ⟨p, n, a, hscan, hAt, ⟨hn1, hn8⟩, hbound, hfin⟩ := gap_what l
  have HFIN := Lib.hid hfin; clear hfin
  have HAT := Lib.hid hAt; clear hAt
  have HBD := Lib.hid hbound; clear hbound
  have HWA := Lib.hid (fun q hq => words_at l q hq (by omega) (by omega))
  generalize hws : wordsV l = ws at *
  clear hws
  have HSC := Lib.hid hscan; clear hscan
  have HW8 := Lib.hid hw8; clear hw8
  go_enter Tryz.func16, Tryz.ntmps16
  go_upto_region 2 with (fail)
  generalize w.alloc (.cells (addrC true l).toArray 36) = W at HQ HF ⊢
  have hfam := HF.out
  go_upto_region 12 with (fail)
  clear hfam
  go_loop [5, 6, 7] (fun x y z => ∃ i : Nat, i ≤ 8 ∧ z = .int .i64 (i : Int) ∧ x = .int .i64 (scanZ ws i).1 ∧ y = .int .i64 ((scanZ ws i).2 : Nat)) (fun _ _ z => 8 - (intOf z).toNat)
  case atStart => exact ⟨0, by omega, rfl, rfl, rfl⟩
  case round =>
    obtain ⟨i, hi, rfl, rfl, rfl⟩ := hrel
    by_cases hlt : i < 8
    · have HS1 : Hid ((scanZ ws i).2 < runZ (ws.drop i) → scanZ ws (i + 1) = ((i : Int), runZ (ws.drop i))) := Lib.hid fun h => by rw [scanZ, if_pos h]
      have HS0 : Hid (¬ (scanZ ws i).2 < runZ (ws.drop i) → scanZ ws (i + 1) = ((scanZ ws i).1, (scanZ ws i).2)) := Lib.hid fun h => by rw [scanZ, if_neg h]
      generalize (scanZ ws i).1 = A at HS0 ⊢
      generalize (scanZ ws i).2 = N at HS0 HS1 ⊢
      go_upto_region 15 with (fail)
      go_loop [8] (fun k => ∃ j : Nat, j ≤ 8 ∧ k = .int .i64 (j : Int) ∧ Hid (j ≤ runZ (ws.drop i))) (fun k => 9 - (intOf k).toNat)
      case atStart => exact ⟨0, by omega, rfl, Lib.hid (Nat.zero_le _)⟩
      case round =>
        obtain ⟨j, hj, rfl, hjz⟩ := hrel
        by_cases h8 : i + j < 8
        · have hl := Hl.out
          have hx := HQ.out.1 (2 * (i + j)) (by omega)
          have hy := HQ.out.1 (2 * (i + j) + 1) (by omega)
          have hz : (ws.drop i)[j]? = some ((l[2 * (i + j)]'(by omega)).toNat * 256 + (l[2 * (i + j) + 1]'(by omega)).toNat) := by rw [List.getElem?_drop]; exact HWA.out (i + j) h8
          generalize (l[2 * (i + j)]'(by omega)) = x at hx hz
          generalize (l[2 * (i + j) + 1]'(by omega)) = y at hy hz
          have HZ := Lib.hid hz; clear hz hl
          by_cases hx0 : x.toNat = 0
          · have hx1 : ((x.toNat : Int) == 0) = true := by simp [hx0]
            by_cases hy0 : y.toNat = 0
            · have hy1 : ((y.toNat : Int) == 0) = true := by simp [hy0]
              have HN := Lib.hid (runZ_step (ws.drop i) j hjz.out (by rw [HZ.out, hx0, hy0]))
              clear hx0 hy0
              go_wp2
              go_round
              case rel => exact ⟨j + 1, by omega, by go_num, HN⟩
              case measure => simp [intOf]; omega
            · have hy1 : ((y.toNat : Int) == 0) = false := by simp [hy0]
              have HJ := Lib.hid (runZ_stop (ws.drop i) j hjz.out (by rw [HZ.out]; simp; omega))
              clear hx0 hy0
              by_cases hN : N < j
              · rw [← HJ.out] at HS1
                have HX := Lib.hid (HS1.out hN); clear HS0 HS1
                go_wp2_with fail
                go_round
                case rel => exact ⟨i + 1, by omega, by go_num, by rw [HX.out], by rw [HX.out]⟩
                case measure => simp [intOf]; omega
              · rw [← HJ.out] at HS0
                have HX := Lib.hid (HS0.out hN); clear HS0 HS1
                go_wp2_with fail
                go_round
                case rel => exact ⟨i + 1, by omega, by go_num, by rw [HX.out], by rw [HX.out]⟩
                case measure => simp [intOf]; omega
          · have hx1 : ((x.toNat : Int) == 0) = false := by simp [hx0]
            have HJ := Lib.hid (runZ_stop (ws.drop i) j hjz.out (by rw [HZ.out]; simp; omega))
            clear hx0
            by_cases hN : N < j
            · rw [← HJ.out] at HS1
              have HX := Lib.hid (HS1.out hN); clear HS0 HS1
              go_wp2_with fail
              go_round
              case rel => exact ⟨i + 1, by omega, by go_num, by rw [HX.out], by rw [HX.out]⟩
              case measure => simp [intOf]; omega
            · rw [← HJ.out] at HS0
              have HX := Lib.hid (HS0.out hN); clear HS0 HS1
              go_wp2_with fail
              go_round
              case rel => exact ⟨i + 1, by omega, by go_num, by rw [HX.out], by rw [HX.out]⟩
              case measure => simp [intOf]; omega
        · have HJ := Lib.hid (runZ_stop (ws.drop i) j hjz.out (by rw [List.getElem?_eq_none (by rw [List.length_drop, HW8.out]; omega)]; simp))
          by_cases hN : N < j
          · rw [← HJ.out] at HS1
            have HX := Lib.hid (HS1.out hN); clear HS0 HS1
            go_wp2_with fail
            go_round
            case rel => exact ⟨i + 1, by omega, by go_num, by rw [HX.out], by rw [HX.out]⟩
            case measure => simp [intOf]; omega
          · rw [← HJ.out] at HS0
            have HX := Lib.hid (HS0.out hN); clear HS0 HS1
            go_wp2_with fail
            go_round
            case rel => exact ⟨i + 1, by omega, by go_num, by rw [HX.out], by rw [HX.out]⟩
            case measure => simp [intOf]; omega
    · obtain rfl : i = 8 := by omega
      rw [HSC.out]
      go_upto_region 20 with (fail)
      go_loopw [3, 9] (fun t z wr => ∃ (i : Nat) (s : List UInt8), i ≤ 8 ∧ z = .int .i64 (i : Int) ∧ t = .string (Str s) ∧ Hid (PrS D16 ws a n i s) ∧ Hid (PB w wr l)) (fun _ z _ => 8 - (intOf z).toNat)
      case atStart => exact ⟨0, [], by omega, rfl, rfl, Lib.hid (PrS.start D16 ws a n), HQ⟩
      case round _ _ wr =>
        obtain ⟨i, s, hi, rfl, rfl, hs, hq⟩ := hrel
        have hsl := hs.out.len D16_len HW8.out
        by_cases hlt : i < 8
        · have hat := HAT.out i (by omega)
          by_cases hia : i = a
          · rw [decide_eq_true hia] at hat
            subst hia
            have hb : i + n ≤ 8 := by rcases HBD.out with h | h <;> omega
            have hcat : ∀ w, (Op.stringOp .add (Str s) ⟨#[58, 58]⟩).run Tryz.prog w = .ok (.string (Str (s ++ [58, 58]))) w := fun w => run_cat (P := Tryz.prog) s [58, 58] (by simp; omega) w
            have HN := Lib.hid (hs.out.skip hn1)
            go_wp2_with fail
            go_roundw
            case rel => exact ⟨i + n, _, by omega, by go_num, rfl, HN, hq⟩
            case measure => simp [intOf]; omega
          · rw [decide_eq_false hia] at hat
            have hl := Hl.out
            have hx := hq.out.1 (2 * i) (by omega)
            have hy := hq.out.1 (2 * i + 1) (by omega)
            have hz : ws.getD i 0 = (l[2 * i]'(by omega)).toNat * 256 + (l[2 * i + 1]'(by omega)).toNat := by rw [List.getD_eq_getElem?_getD, HWA.out i hlt]; rfl
            generalize (l[2 * i]'(by omega)) = x at hx hz
            generalize (l[2 * i + 1]'(by omega)) = y at hy hz
            have hxb := x.toNat_lt
            have hyb := y.toNat_lt
            have hx6 : IntKind.i64.wrap (x.toNat : Int) = (x.toNat : Int) := by simp only [IntKind.wrap_i64]; omega
            have hy6 : IntKind.i64.wrap (y.toNat : Int) = (y.toNat : Int) := by simp only [IntKind.wrap_i64]; omega
            have hd5 := D16_len (ws.getD i 0)
            have HNUM : Hid (∀ w, Calls Tryz.prog 31 #[.int .i64 (256 * (x.toNat : Int) + (y.toNat : Int)), .int .i64 16] w fun e w' => e = .returned (.string (Str (D16 (ws.getD i 0)))) ∧ w' = w) := Lib.hid fun w => by
              rw [show (256 * (x.toNat : Int) + (y.toNat : Int)) = ((ws.getD i 0 : Nat) : Int) by rw [hz]; omega]
              exact num16_any _ (by omega) w
            have HNX := Lib.hid (hs.out.next D16_ends (by rw [HW8.out]; exact hlt) hia)
            have Hia := Lib.hid hia
            generalize D16 (ws.getD i 0) = d at HNUM HNX hd5
            clear hz hl hia
            rcases HNX.out with ⟨e, hn⟩ | ⟨p, e, hn⟩ | ⟨p, c, e, hc, hn⟩
            · subst e
              have HN := Lib.hid hn; clear hn
              have hc1 := run_cat (P := Tryz.prog) [] d (by simp; omega)
              rw [List.nil_append] at hc1
              have ht : (Str ([] : List UInt8)).toList = [] := strL _
              go_wp2_with fail
              go_quiet ((go_at_call 31; exact Calls.quiet_of_same (HNUM.out _)))
              go_wp2
              go_roundw
              case rel => exact ⟨i + 1, _, by omega, by go_num, rfl, HN, Lib.hid (hq.out.drewN _)⟩
              case measure => simp [intOf]; omega
            · have HN := Lib.hid hn; clear hn
              have hc1 := run_cat (P := Tryz.prog) s d (by omega)
              have hsz : (Str s).size = p.length + 1 := by rw [e, Str_size]; simp
              have hix : ∀ h, (Str s)[p.length]'h = 58 := by subst e; exact fun h => str_last p 58 h
              have ht : (Str s).toList = p ++ [58] := by rw [strL, e]
              have hie : (p ++ [58]).isEmpty = false := by simp
              have hcn : ((58 : UInt8).toNat : Int) = 58 := rfl
              have hpl : p.length ≤ 119 := by rw [e] at hsl; simp at hsl; omega
              generalize Str s = S at hc1 hsz hix ht ⊢
              have HE := Lib.hid e; clear e hsl
              go_wp2_with fail
              go_quiet ((go_at_call 31; exact Calls.quiet_of_same (HNUM.out _)))
              go_wp2
              go_roundw
              case rel => exact ⟨i + 1, _, by omega, by go_num, rfl, HN, Lib.hid (hq.out.drewN _)⟩
              case measure => simp [intOf]; omega
            · have HN := Lib.hid hn; clear hn
              have hcc : ∀ w, (Op.stringOp .add (Str s) ⟨#[58]⟩).run Tryz.prog w = .ok (.string (Str (s ++ [58]))) w := fun w => run_cat (P := Tryz.prog) s [58] (by simp; omega) w
              have hc1 := run_cat (P := Tryz.prog) (s ++ [58]) d (by simp; omega)
              simp only [List.append_assoc, List.cons_append, List.nil_append] at hc1
              have hsz : (Str s).size = p.length + 1 := by rw [e, Str_size]; simp
              have hix : ∀ h, (Str s)[p.length]'h = c := by subst e; exact fun h => str_last p c h
              have hcn : ((c.toNat : Int) != 58) = true := by
                simp
                intro h
                apply hc
                apply UInt8.toNat_inj.1
                have : (58 : UInt8).toNat = 58 := rfl
                omega
              have ht : (Str s).toList = p ++ [c] := by rw [strL, e]
              have hie : (p ++ [c]).isEmpty = false := by simp
              have hpl : p.length ≤ 119 := by rw [e] at hsl; simp at hsl; omega
              generalize Str s = S at hcc hsz hix ht ⊢
              have HE := Lib.hid e; clear e hsl
              go_wp2_with fail
              go_quiet ((go_at_call 31; exact Calls.quiet_of_same (HNUM.out _)))
              go_wp2
              go_roundw
              case rel => exact ⟨i + 1, _, by omega, by go_num, rfl, HN, Lib.hid (hq.out.drewN _)⟩
              case measure => simp [intOf]; omega
        · obtain rfl : i = 8 := by omega
          have HD := Lib.hid (HFIN.out s hs.out)
          go_wp2_with fail
          go_ret
          exact ⟨by rw [← HD.out]; rfl, hq.out.2.2⟩
end Go.Proofs.YtalnfjnfcloonaaGreatDoor
