/-
  What the laws of clocks ask of a clock beside a list: told.
-/
import Derived.Test.YtiegeejbnplhdaaCkT
namespace Go.Proofs.Ytiegeejbnplhdaa
open Go.RowKit
set_option linter.unusedVariables false
set_option linter.unusedSimpArgs false

theorem find_yes {l : List EN} (h : CkOk l) {k : List UInt8} (hh : hasE l k = true) : ∃ i : Nat, ∃ hi : i < l.length, ∃ t : Int, findE l k = (i : Int) ∧ l[i].1 = k ∧ tOf l k = t ∧ l[i].2 = t := by
  have hm := hasE_mem h hh
  obtain ⟨i, hi, e⟩ := List.getElem_of_mem hm
  refine ⟨i, hi, tOf l k, findE_at hi (fun x hx e2 => ?_) (by rw [e]), by rw [e], rfl, by rw [e]⟩
  obtain ⟨j, hj, e3⟩ := List.mem_take_iff_getElem.1 hx
  have hj2 : j < l.length := by omega
  have h3 : l[j].1 = l[i].1 := by rw [e3, e2, e]
  have h4 := h.u l[j] (List.getElem_mem hj2) l[i] (List.getElem_mem hi) h3
  have hn : l.Nodup := Sorted.nodup ltE_ord h.s
  have := (List.getElem_inj hn).1 h4
  omega
theorem find_no {l : List EN} {k : List UInt8} (hh : hasE l k = false) : findE l k = -1 := findE_none fun x hx e => by
  unfold hasE at hh
  have := List.any_eq_false.1 hh x hx
  simp [e] at this
theorem KE_key0 {w : World} {b o : Nat} {l : List EN} {x : EN} {r : List EN} (h : KE.At w b o l) (e : l = x :: r) : w.cell? ⟨b, o, none⟩ = some (.string (Str x.1)) ∧ w.cell? ⟨b, o + 1, none⟩ = some (.int .i64 x.2) := by
  subst e
  have := KE_key h (i := 0) (by simp)
  simpa using this

set_option maxRecDepth 1000000 in
set_option maxHeartbeats 2000000 in
theorem told_any (p v : Value) (l : List EN) (ask : List UInt8) (w : World) (hV : ClkV w p l) (hok : EnOk l) (hv : Vec KE w v l) (hask : ask.length ≤ maxLen) (hll : l.length ≤ 1000) :
    Calls Try.prog 18 #[p, v, .string (Str ask)] w fun x w' => x = .returned (.bool true) ∧ Below w.heap.size w w' := by
  have HAT := Lib.hid (ckat_any p l ask w hV hok.ck hask)
  have HFI := Lib.hid (find12_any v l ask w hv)
  have HNX := Lib.hid (next_any p l w hV hok)
  have HLE := Lib.hid (fun W h => len_any p l W h)
  have HKY := Lib.hid (fun W h => ckeys_any p l W h hok (by omega))
  have HRK := Lib.hid (fun W h => keys12_any v l W h (by omega))
  have HSO := Lib.hid (fun v' W h => sorted12_any v' (keysE l) W h (by unfold keysE; rw [List.length_map]; omega))
  have HSA : Hid (∀ a b W, Vec KS W a (sortK (keysE l)) → Vec KS W b (sortK (keysE l)) → Calls Try.prog 14 #[a, b] W fun x w' => x = .returned (.bool true) ∧ ∃ d, w' = W.drewN d) := Lib.hid (fun a b W h1 h2 => by have := same12_any a b (sortK (keysE l)) (sortK (keysE l)) W h1 h2; rwa [decide_eq_true rfl] at this)
  have HV := Lib.hid hV
  have HVE := Lib.hid hv
  obtain ⟨q, cap, rfl, _, _, _⟩ := hv.len
  obtain ⟨n, hn⟩ : ∃ n, n = l.length := ⟨_, rfl⟩
  have hn3 : n ≤ 1000 := by omega
  have HN := Lib.hid hn
  rw [← hn]
  rw [← hn] at HFI HRK HVE HLE
  --CASES
  have HF : Hid (∀ a r, l = a :: r → ∃ b o, q = some ⟨b, o, none⟩ ∧ b < w.heap.size ∧ KE.At w b o l) := Lib.hid fun a r e => by
    obtain ⟨b, o, cap', e2, _, _, h3, h4⟩ := hv.parts (by rw [e]; simp)
    simp only [Value.slice.injEq] at e2
    exact ⟨b, o, e2.1, h3, h4⟩
  have HOK := Lib.hid hok
  clear hV hv hok
  cases hh : hasE l ask with
  | false =>
    have h1 := find_no hh
    have h2 := tOf_not hh
    rw [hh] at HAT
    rw [h1] at HFI
    rw [h2] at HAT
    clear h1 h2
    cases hl : l with
    | nil =>
      have hn0 : n = 0 := by rw [hn, hl]; rfl
      rw [hl] at HNX
      change Hid (Calls Try.prog _ _ w fun x w' => x = .returned (.tuple #[.string ⟨#[]⟩, .int .i64 0, .bool false]) ∧ Below w.heap.size w w') at HNX
      clear hn hl hh hll
      subst hn0
      go_enter Try.func18, Try.ntmps18
      go_wp2_with (first
        | (go_at_call 21; refine HAT.out.mono ?_; rintro x w1 ⟨rfl, rfl⟩)
        | (go_at_call 8; refine HFI.out.mono ?_; rintro x w1 ⟨rfl, rfl⟩)
        | (go_at_call 22; refine HNX.out.mono ?_; rintro x w1 ⟨rfl, hb⟩; have HB1 := Lib.hid hb; clear hb)
        | (go_at_call 24; refine (HLE.out _ (HV.out.below HB1.out)).mono ?_; rintro x w2 ⟨rfl, rfl⟩)
        | (go_at_call 23; refine (HKY.out _ (HV.out.below HB1.out)).mono ?_; rintro x w3 ⟨v3, rfl, hb, ho⟩; have HB3 := Lib.hid hb; have HO3 := Lib.hid ho; clear hb ho)
        | (go_at_call 16; refine (HRK.out _ ((HVE.out.below HB1.out).below HB3.out)).mono ?_; rintro x w4 ⟨v4, rfl, hb, ho⟩; have HB4 := Lib.hid hb; have HO4 := Lib.hid ho; clear hb ho)
        | (go_at_call 30; refine (HSO.out _ _ HO4.out.vec).mono ?_; rintro x w5 ⟨v5, rfl, hb, ho⟩; have HB5 := Lib.hid hb; have HO5 := Lib.hid ho; clear hb ho)
        | (go_at_call 14; refine (HSA.out _ _ _ ((HO3.out.vec.below HB4.out).below HB5.out) HO5.out.vec).mono ?_; rintro x w6 ⟨rfl, d, rfl⟩))
      go_ret
      exact ⟨rfl, bdrewN (bstep (bstep (bstep HB1.out HB3.out) HB4.out) HB5.out) _⟩
    | cons a r =>
      obtain ⟨b, o, rfl, hbl, RA⟩ := HF.out a r hl
      have HRA := Lib.hid RA
      have HBL := Lib.hid hbl
      have HL := Lib.hid hl
      have hn0 : (0 : Int) < (n : Int) := by rw [hn, hl]; simp
      rw [hl] at HNX
      change Hid (Calls Try.prog _ _ w fun x w' => x = .returned (.tuple #[.string (Str a.1), .int .i64 a.2, .bool true]) ∧ Below w.heap.size w w') at HNX
      have hst := str_beqK a.1 a.1
      rw [decide_eq_true rfl] at hst
      clear hn hl hh hll RA hbl
      obtain ⟨ak, at_⟩ := a
      simp only at HNX hst
      go_enter Try.func18, Try.ntmps18
      go_wp2_with (first
        | (go_at_call 21; refine HAT.out.mono ?_; rintro x w1 ⟨rfl, rfl⟩)
        | (go_at_call 8; refine HFI.out.mono ?_; rintro x w1 ⟨rfl, rfl⟩)
        | (go_at_call 22; refine HNX.out.mono ?_; rintro x w1 ⟨rfl, hb⟩; have HB1 := Lib.hid hb; have hcs := KE_key0 (HRA.out.below HBL.out HB1.out) HL.out; have e1 := hcs.1; have e2 := hcs.2; clear hcs; clear hb)
        | (go_at_call 24; refine (HLE.out _ (HV.out.below HB1.out)).mono ?_; rintro x w2 ⟨rfl, rfl⟩)
        | (go_at_call 23; refine (HKY.out _ (HV.out.below HB1.out)).mono ?_; rintro x w3 ⟨v3, rfl, hb, ho⟩; have HB3 := Lib.hid hb; have HO3 := Lib.hid ho; clear hb ho)
        | (go_at_call 16; refine (HRK.out _ ((HVE.out.below HB1.out).below HB3.out)).mono ?_; rintro x w4 ⟨v4, rfl, hb, ho⟩; have HB4 := Lib.hid hb; have HO4 := Lib.hid ho; clear hb ho)
        | (go_at_call 30; refine (HSO.out _ _ HO4.out.vec).mono ?_; rintro x w5 ⟨v5, rfl, hb, ho⟩; have HB5 := Lib.hid hb; have HO5 := Lib.hid ho; clear hb ho)
        | (go_at_call 14; refine (HSA.out _ _ _ ((HO3.out.vec.below HB4.out).below HB5.out) HO5.out.vec).mono ?_; rintro x w6 ⟨rfl, d, rfl⟩))
      go_ret
      exact ⟨rfl, bdrewN (bstep (bstep (bstep HB1.out HB3.out) HB4.out) HB5.out) _⟩
  | true =>
    obtain ⟨i, hi, tt, h1, h2, h3, htt⟩ := find_yes HOK.out.ck hh
    cases hl : l with
    | nil => rw [hl] at hi; simp at hi
    | cons a r =>
      obtain ⟨b, o, rfl, hbl, RA⟩ := HF.out a r hl
      have HRA := Lib.hid RA
      have HBL := Lib.hid hbl
      have HL := Lib.hid hl
      rw [hh, h3] at HAT
      rw [h1] at HFI
      have hn0 : (0 : Int) < (n : Int) := by rw [hn, hl]; simp
      have hin : (i : Int) < (n : Int) := by omega
      have hig : decide ((i : Int) ≥ 0) = true := decide_eq_true (by omega)
      rw [hl] at HNX
      change Hid (Calls Try.prog _ _ w fun x w' => x = .returned (.tuple #[.string (Str a.1), .int .i64 a.2, .bool true]) ∧ Below w.heap.size w w') at HNX
      have hst := str_beqK a.1 a.1
      rw [decide_eq_true rfl] at hst
      have HCE : Hid (∀ W, KE.At W b o l → W.cell? ⟨b, o + i * 2 + 1, none⟩ = some (.int .i64 tt)) := Lib.hid fun W h => by
        have := (KE_key h hi).2
        rwa [htt] at this
      clear htt
      clear hn hl hh hll RA hbl h1 h2 h3 hi
      obtain ⟨ak, at_⟩ := a
      simp only at HNX hst
      go_enter Try.func18, Try.ntmps18
      go_wp2_with (first
        | (go_at_call 21; refine HAT.out.mono ?_; rintro x w1 ⟨rfl, rfl⟩)
        | (go_at_call 8; refine HFI.out.mono ?_; rintro x w1 ⟨rfl, rfl⟩)
        | (go_at_call 22; refine HNX.out.mono ?_; rintro x w1 ⟨rfl, hb⟩; have HB1 := Lib.hid hb; have hcs := KE_key0 (HRA.out.below HBL.out HB1.out) HL.out; have e1 := hcs.1; have e2 := hcs.2; clear hcs; have e3 := HCE.out _ (HRA.out.below HBL.out HB1.out); clear hb)
        | (go_at_call 24; refine (HLE.out _ (HV.out.below HB1.out)).mono ?_; rintro x w2 ⟨rfl, rfl⟩)
        | (go_at_call 23; refine (HKY.out _ (HV.out.below HB1.out)).mono ?_; rintro x w3 ⟨v3, rfl, hb, ho⟩; have HB3 := Lib.hid hb; have HO3 := Lib.hid ho; clear hb ho)
        | (go_at_call 16; refine (HRK.out _ ((HVE.out.below HB1.out).below HB3.out)).mono ?_; rintro x w4 ⟨v4, rfl, hb, ho⟩; have HB4 := Lib.hid hb; have HO4 := Lib.hid ho; clear hb ho)
        | (go_at_call 30; refine (HSO.out _ _ HO4.out.vec).mono ?_; rintro x w5 ⟨v5, rfl, hb, ho⟩; have HB5 := Lib.hid hb; have HO5 := Lib.hid ho; clear hb ho)
        | (go_at_call 14; refine (HSA.out _ _ _ ((HO3.out.vec.below HB4.out).below HB5.out) HO5.out.vec).mono ?_; rintro x w6 ⟨rfl, d, rfl⟩))
      go_ret
      exact ⟨rfl, bdrewN (bstep (bstep (bstep HB1.out HB3.out) HB4.out) HB5.out) _⟩
end Go.Proofs.Ytiegeejbnplhdaa
