/-
  The walk of ClockCopies.
-/
import Derived.Test.YtiegeejbnplhdaaClA
namespace Go.Proofs.Ytiegeejbnplhdaa
open Go.RowKit
set_option linter.unusedVariables false
set_option linter.unusedSimpArgs false

theorem cutk_any (k : List UInt8) (hk : k.length ≤ maxLen) (w : World) : Calls Try.prog 7 #[.string (Str k), .int .i64 10] w fun x w' => x = .returned (.string (Str (k.take 10))) ∧ w = w' := by
  have h := cut_any (Str k) (by rw [Str_size]; exact hk) 10 (by omega) w
  rwa [cutB_Str] at h
theorem setE_len (l : List EN) (k : List UInt8) (t : Int) : (setE l k t).length ≤ l.length + 1 := by
  unfold setE
  rw [(insS_perm ltE (k, t) (cutE l k)).length_eq, List.length_cons]
  have := List.length_filter_le (fun x : EN => !decide (x.1 = k)) l
  unfold cutE
  omega
theorem take10_le (k : List UInt8) : (k.take 10).length ≤ maxLen := by rw [List.length_take]; unfold maxLen; omega
set_option maxRecDepth 1000000 in
set_option maxHeartbeats 4000000 in
theorem ckcopies_any (v0 : Value) (acts : List AC) (key : List UInt8) (at_ : Int) (w : World) (ha : actsS w [v0] acts) (hkey : key.length ≤ maxLen) (hat : (Lit.int .i64 at_).wf = true) :
    Calls Try.prog 4 #[v0, .string (Str key), .int .i64 at_] w fun x w' => x = .returned (.bool true) ∧ Below w.heap.size w w' := by
  obtain ⟨q, cap, rfl, hcl, hcm, hacts⟩ := acts_of ha
  obtain ⟨n, hn⟩ : ∃ n, n = acts.length := ⟨_, rfl⟩
  have HACT : Hid (∀ i (hi : i < n), ∃ b o k t, q = some ⟨b, o, none⟩ ∧ k.length ≤ maxLen ∧ (Lit.int .i64 t).wf = true ∧ ∀ W, Below w.heap.size w W → W.cell? ⟨b, o + i * 3 + 1, none⟩ = some (.string (Str k)) ∧ W.cell? ⟨b, o + i * 3 + 2, none⟩ = some (.int .i64 t)) := Lib.hid fun i hi => by
    obtain ⟨b, o, h1, h2, h3, h4, h5, h6⟩ := hacts i (by omega)
    exact ⟨b, o, _, _, h1, h4, h6, fun W hW => ⟨(h3.below hW h2).c1, (h3.below hW h2).c2⟩⟩
  have hmx : n ≤ maxLen := by omega
  unfold maxLen at hmx
  rw [← hn]
  clear ha hacts hn hcl hcm
  have HNEW := Lib.hid (mnew_any w)
  have HCUT := Lib.hid (fun k hk W => cutk_any k hk W)
  have HKEY := Lib.hid hkey
  have HAT := Lib.hid hat
  obtain ⟨key2, HK2, HK2E⟩ : ∃ k2 : List UInt8, Hid (k2.length ≤ maxLen) ∧ Hid (key.take 10 = k2) := ⟨_, Lib.hid (take10_le key), Lib.hid rfl⟩
  obtain ⟨B, HBE⟩ : ∃ B, Hid (w.heap.size = B) := ⟨_, Lib.hid rfl⟩
  rw [HBE.out] at HNEW HACT ⊢
  have HSET : Hid (∀ W b l (k : List UInt8) (t : Int), Mine B w W b l → k.length ≤ maxLen → l.length ≤ 10 → (Lit.int .i64 t).wf = true → Calls Try.prog 10 #[.pointer (some ⟨b, 0, none⟩), .string (Str k), .int .i64 t] W fun x w' => x = .returned (.bool (!hasE l k)) ∧ Mine B w w' b (setE l k t) ∧ Keep (ClkB W (.pointer (some ⟨b, 0, none⟩))) W w') :=
    Lib.hid fun W b l k t h hk hl ht => mset_any h k t hk (by omega) ht
  have HSET2 : Hid (∀ B2 w1 W b l (k : List UInt8) (t : Int), Mine B2 w1 W b l → k.length ≤ maxLen → l.length ≤ 10 → (Lit.int .i64 t).wf = true → Calls Try.prog 10 #[.pointer (some ⟨b, 0, none⟩), .string (Str k), .int .i64 t] W fun x w' => (∃ c, x = .returned (.bool c)) ∧ Mine B2 w1 w' b (setE l k t)) :=
    Lib.hid fun B2 w1 W b l k t h hk hl ht => (mset_any h k t hk (by omega) ht).mono fun _ _ h => ⟨⟨_, h.1⟩, h.2.1⟩
  have HRS : Hid (∀ W v l (k : List UInt8) t, VecS KE 53 W v l → l.length ≤ 10 → Calls Try.prog 11 #[v, .string (Str k), .int .i64 t] W fun x w' => ∃ v', x = .returned v' ∧ Below W.heap.size W w' ∧ VecS KE 53 w' v' (setE l k t)) :=
    Lib.hid fun W v l k t h hl => (set12_any v l k t W h.vec (by omega)).mono fun x w' ⟨v', hx, hb, ho⟩ => ⟨v', hx, hb, ho.vecS⟩
  have HCO := Lib.hid (fun p l W h => copy_any p l W h)
  have HPOP : Hid (∀ W b l, Mine B w W b l → l.length ≤ 10 → Calls Try.prog 15 #[.pointer (some ⟨b, 0, none⟩), .int .i64 0] W fun x w' => (∃ v', x = .returned v') ∧ Mine B w w' b (l.drop (dueE l 0)) ∧ Keep (ClkB W (.pointer (some ⟨b, 0, none⟩))) W w') :=
    Lib.hid fun W b l h hl => (mpop_any h 0 (by unfold SB; omega) (by omega)).mono fun x w' ⟨v', hx, h1, h2, _⟩ => ⟨⟨v', hx⟩, h1, h2⟩
  have HDUE : Hid (∀ W v l, VecS KE 53 W v l → Calls Try.prog 9 #[v, .int .i64 0] W fun x w' => x = .returned (.int .i64 (dueE l 0 : Nat)) ∧ W = w') := Lib.hid fun W v l h => due12_any v l 0 W h.vec
  have HTOLD := Lib.hid (fun p v l W h1 h2 h3 h4 => told_any p v l key2 W h1 h2 h3 HK2.out h4)
  have HLI := Lib.hid (fun W => lives12_any W)
  go_enter Try.func4, Try.ntmps4
  go_wp2_with (first
    | (go_at_call 6; refine HNEW.out.mono ?_; rintro x w1 ⟨rfl, h⟩; have H1 := Lib.hid h; clear h; have HE1 := Lib.hid (show VecS KE 53 (w1.alloc (.cells #[] 53)) (.slice (some ⟨w1.heap.size, 0, none⟩) 0 0) [] from .inr ⟨_, 0, 0, #[], (0, 0), rfl, Nat.le_refl _, by unfold maxLen; omega, ObjAt.made w1 #[] _, fun i hi => absurd hi (by simp)⟩); have H2 := Lib.hid (H1.out.below (bbV w1 (.cells #[] 53))))
    | (go_at_call 7; refine (HCUT.out _ HKEY.out _).mono ?_; rintro x w2 ⟨rfl, rfl⟩; rw [HK2E.out]))
  go_loopw [8, 9] (fun u i wr => ∃ (k : Nat) (l : List EN), k ≤ n ∧ k ≤ 10 ∧ i = .int .i64 k ∧ Hid (Mine B w wr B l) ∧ Hid (VecS KE 53 wr u l) ∧ Hid (l.length ≤ k)) (fun _ i _ => n - (intOf i).toNat)
  case atStart => exact ⟨0, [], by omega, by omega, rfl, H2, HE1, Lib.hid (Nat.le_refl _)⟩
  case round =>
    clear H1 H2 HE1
    obtain ⟨k, l, hk, hk10, rfl, HM, HV, HL⟩ := hrel
    by_cases hlt : k < n ∧ k < 10
    · obtain ⟨hlt1, hlt2⟩ := hlt
      have hd1 : decide ((k : Int) < (n : Int)) = true := decide_eq_true (by omega)
      have hd2 : decide ((k : Int) < 10) = true := decide_eq_true (by omega)
      have hb1 : (k : Int) < (n : Int) := by omega
      have hb2 : (k : Int) < 10 := by omega
      have hw1 : IntKind.i64.wrap ((k : Int) + 1) = (k : Int) + 1 := by simp only [IntKind.wrap_i64]; omega
      obtain ⟨ab, ao, kk, tt, rfl, hkk, htt, hcell⟩ := HACT.out k hlt1
      have HKK := Lib.hid hkk
      have HTT := Lib.hid htt
      have HCELL := Lib.hid hcell
      have r1 := (hcell wr HM.out.bel).1
      have r2 := (hcell wr HM.out.bel).2
      obtain ⟨k2, HKL, HKE⟩ : ∃ k2 : List UInt8, Hid (k2.length ≤ maxLen) ∧ Hid (kk.take 10 = k2) := ⟨_, Lib.hid (take10_le kk), Lib.hid rfl⟩
      clear hcell hkk htt
      go_wp2_with (first
        | (go_at_call 7; refine (HCUT.out _ HKK.out _).mono ?_; rintro x w2 ⟨rfl, rfl⟩; rw [HKE.out])
        | (go_at_call 10; refine (HSET.out _ _ _ _ _ HM.out HKL.out (by have := HL.out; omega) HTT.out).mono ?_; rintro x w2 ⟨rfl, h1, h2⟩; have H2 := Lib.hid h1; have HV2 := Lib.hid (HV.out.keepC HM.out.v h2 (by decide)); have r3 := (HCELL.out w2 h1.bel).2; clear h1 h2)
        | (go_at_call 11; refine (HRS.out _ _ _ _ _ HV2.out (by have := HL.out; omega)).mono ?_; rintro x w3 ⟨v3, rfl, hb, hv⟩; have H3 := Lib.hid (H2.out.below hb); have HV3 := Lib.hid hv; clear hb hv))
      go_roundw
      case rel => exact ⟨k + 1, _, by omega, by omega, by go_num, H3, HV3, Lib.hid (by have := HL.out; have := setE_len l k2 tt; omega)⟩
      case measure => simp [intOf]; omega
    · obtain ⟨c, hc⟩ : ∃ c, c = (decide ((k : Int) < (n : Int))) := ⟨_, rfl⟩
      have hstop : (¬ (k : Int) < (n : Int)) ∨ ((k : Int) < (n : Int) ∧ decide ((k : Int) < 10) = false) := by
        by_cases h : k < n
        · right; exact ⟨by omega, decide_eq_false (by omega)⟩
        · left; omega
      clear hc
      have HL10 : Hid (l.length ≤ 10) := Lib.hid (by have := HL.out; omega)
      obtain ⟨m, HME⟩ : ∃ m, Hid (setE l key2 at_ = m) := ⟨_, Lib.hid rfl⟩
      have HML : Hid (m.length ≤ 11) := Lib.hid (by rw [← HME.out]; have := setE_len l key2 at_; have := HL10.out; omega)
      obtain ⟨dn, HDN⟩ : ∃ dn, Hid (dueE l 0 = dn) := ⟨_, Lib.hid rfl⟩
      have HDL : Hid (dn ≤ l.length) := Lib.hid (by rw [← HDN.out]; exact dueE_le l 0)
      have HMW := Lib.hid (HM.out.v)
      rcases HV.out with ⟨rfl, hl0⟩ | ⟨eb, eo, ecap, ecs, efr, rfl, hec, hem, heb, heA⟩
      · have HLN := Lib.hid hl0
        have hdn : dn = 0 := by have := HDL.out; rw [hl0] at this; simpa using this
        subst hdn
        have hdv : Hid (∀ W, Vec KE W (.slice none 0 0) (l.drop 0)) := Lib.hid fun W => by rw [HLN.out]; exact Vec.nil _ _
        clear hl0
        rcases hstop with hs | ⟨hs, hs2⟩
        · go_wp2_with (first
            | (go_at_call 20; refine (HCO.out _ _ _ HMW.out).mono ?_; rintro x w2 ⟨b2, rfl, h1, h2, h3, h4⟩; have HD2 := Lib.hid (show Mine wr.heap.size wr w2 b2 l from ⟨h3, h3.size, h2, h4, HM.out.ok⟩); have HM2 := Lib.hid (HM.out.below h3); have HV2 := Lib.hid (HV.out.below h3); clear h1 h2 h3 h4)
            | (go_at_call 10; refine (HSET2.out _ _ _ _ _ _ _ HD2.out HK2.out HL10.out HAT.out).mono ?_; rintro x w3 ⟨⟨sc, rfl⟩, h⟩; have HD3 := Lib.hid h; have HM3 := Lib.hid (HM.out.below h.bel); have HV3 := Lib.hid (HV.out.below h.bel); clear h; rw [HME.out] at HD3)
            | (go_at_call 11; refine (HRS.out _ _ _ _ _ HV3.out HL10.out).mono ?_; rintro x w4 ⟨v4, rfl, hb, hv⟩; have HD4 := Lib.hid (HD3.out.below hb); have HM4 := Lib.hid (HM3.out.below hb); have HV4 := Lib.hid (HV3.out.below hb); rw [HME.out] at hv; have HMV4 := Lib.hid hv; clear hb hv)
            | (go_at_call 15; refine (HPOP.out _ _ _ HM4.out HL10.out).mono ?_; rintro x w5 ⟨⟨v5, rfl⟩, h1, h2⟩; have HM5 := Lib.hid h1; have HD5 := Lib.hid (Mine.apart HMW.out HD4.out h2); have HV5 := Lib.hid (HV4.out.keepC HM4.out.v h2 (by decide)); have HMV5 := Lib.hid (HMV4.out.keepC HM4.out.v h2 (by decide)); clear h1 h2; rw [HDN.out] at HM5)
            | (go_at_call 9; refine (HDUE.out _ _ _ HV6.out).mono ?_; rintro x w7 ⟨rfl, rfl⟩; rw [HDN.out])
            | (go_at_call 18; refine (HTOLD.out _ _ _ _ HM6.out.v HM6.out.ok (hdv.out _) (by have := HL10.out; rw [List.length_drop]; omega)).mono ?_; rintro x w8 ⟨rfl, hb⟩; have HM8 := Lib.hid (HM6.out.below hb); clear hb)
            | (go_at_call 18; with_reducible refine (HTOLD.out _ _ _ _ HD5.out HD4.out.ok HMV5.out.vec (by have := HML.out; omega)).mono ?_; rintro x w6 ⟨rfl, hb⟩; have HM6 := Lib.hid (HM5.out.below hb); have HV6 := Lib.hid (HV5.out.below hb); clear hb)
            | (go_at_call 19; refine (HLI.out _).mono ?_; rintro x w9 ⟨rfl, hb⟩; have HM9 := Lib.hid (HM8.out.below hb); clear hb))
          all_goals (go_ret; exact ⟨rfl, HM9.out.bel⟩)
        · go_wp2_with (first
            | (go_at_call 20; refine (HCO.out _ _ _ HMW.out).mono ?_; rintro x w2 ⟨b2, rfl, h1, h2, h3, h4⟩; have HD2 := Lib.hid (show Mine wr.heap.size wr w2 b2 l from ⟨h3, h3.size, h2, h4, HM.out.ok⟩); have HM2 := Lib.hid (HM.out.below h3); have HV2 := Lib.hid (HV.out.below h3); clear h1 h2 h3 h4)
            | (go_at_call 10; refine (HSET2.out _ _ _ _ _ _ _ HD2.out HK2.out HL10.out HAT.out).mono ?_; rintro x w3 ⟨⟨sc, rfl⟩, h⟩; have HD3 := Lib.hid h; have HM3 := Lib.hid (HM.out.below h.bel); have HV3 := Lib.hid (HV.out.below h.bel); clear h; rw [HME.out] at HD3)
            | (go_at_call 11; refine (HRS.out _ _ _ _ _ HV3.out HL10.out).mono ?_; rintro x w4 ⟨v4, rfl, hb, hv⟩; have HD4 := Lib.hid (HD3.out.below hb); have HM4 := Lib.hid (HM3.out.below hb); have HV4 := Lib.hid (HV3.out.below hb); rw [HME.out] at hv; have HMV4 := Lib.hid hv; clear hb hv)
            | (go_at_call 15; refine (HPOP.out _ _ _ HM4.out HL10.out).mono ?_; rintro x w5 ⟨⟨v5, rfl⟩, h1, h2⟩; have HM5 := Lib.hid h1; have HD5 := Lib.hid (Mine.apart HMW.out HD4.out h2); have HV5 := Lib.hid (HV4.out.keepC HM4.out.v h2 (by decide)); have HMV5 := Lib.hid (HMV4.out.keepC HM4.out.v h2 (by decide)); clear h1 h2; rw [HDN.out] at HM5)
            | (go_at_call 9; refine (HDUE.out _ _ _ HV6.out).mono ?_; rintro x w7 ⟨rfl, rfl⟩; rw [HDN.out])
            | (go_at_call 18; refine (HTOLD.out _ _ _ _ HM6.out.v HM6.out.ok (hdv.out _) (by have := HL10.out; rw [List.length_drop]; omega)).mono ?_; rintro x w8 ⟨rfl, hb⟩; have HM8 := Lib.hid (HM6.out.below hb); clear hb)
            | (go_at_call 18; with_reducible refine (HTOLD.out _ _ _ _ HD5.out HD4.out.ok HMV5.out.vec (by have := HML.out; omega)).mono ?_; rintro x w6 ⟨rfl, hb⟩; have HM6 := Lib.hid (HM5.out.below hb); have HV6 := Lib.hid (HV5.out.below hb); clear hb)
            | (go_at_call 19; refine (HLI.out _).mono ?_; rintro x w9 ⟨rfl, hb⟩; have HM9 := Lib.hid (HM8.out.below hb); clear hb))
          all_goals (go_ret; exact ⟨rfl, HM9.out.bel⟩)
      · obtain ⟨el, HEL⟩ : ∃ el, Hid (l.length = el) := ⟨_, Lib.hid rfl⟩
        have hd0 : dn ≤ el := by have := HDL.out; have := HEL.out; omega
        have hd1 : (dn : Int) ≤ (el : Int) := by omega
        have hd2 : el ≤ ecap := by have := HEL.out; omega
        have hd3 : (el : Int) ≤ (ecap : Int) := by omega
        have hdv : Hid (∀ W, VecS KE 53 W (.slice (some ⟨eb, eo, none⟩) el ecap) l → Vec KE W (.slice (if ecap = dn then some ⟨eb, eo, none⟩ else some ⟨eb, eo + dn * 2, none⟩) (el - dn) (ecap - dn)) (l.drop dn)) := Lib.hid fun W h => by
          rcases h with ⟨e, _⟩ | ⟨b3, o3, c3, cs3, fr3, e, h1, h2, h3, h4⟩
          · cases e
          · simp only [Value.slice.injEq, Option.some.injEq, Addr.mk.injEq] at e
            obtain ⟨⟨rfl, rfl, _⟩, e1, rfl⟩ := e
            exact vec_dropV (K := KE) (Array.getElem?_eq_some_iff.1 h3).1 h4 HEL.out.symm hd0 hd2 h2
        have HV' := HV
        rw [HEL.out] at HV'
        rw [HEL.out]
        clear hec hem heb heA HV
        have HV := HV'
        clear HV'
        rcases hstop with hs | ⟨hs, hs2⟩
        · go_wp2_with (first
            | (go_at_call 20; refine (HCO.out _ _ _ HMW.out).mono ?_; rintro x w2 ⟨b2, rfl, h1, h2, h3, h4⟩; have HD2 := Lib.hid (show Mine wr.heap.size wr w2 b2 l from ⟨h3, h3.size, h2, h4, HM.out.ok⟩); have HM2 := Lib.hid (HM.out.below h3); have HV2 := Lib.hid (HV.out.below h3); clear h1 h2 h3 h4)
            | (go_at_call 10; refine (HSET2.out _ _ _ _ _ _ _ HD2.out HK2.out HL10.out HAT.out).mono ?_; rintro x w3 ⟨⟨sc, rfl⟩, h⟩; have HD3 := Lib.hid h; have HM3 := Lib.hid (HM.out.below h.bel); have HV3 := Lib.hid (HV.out.below h.bel); clear h; rw [HME.out] at HD3)
            | (go_at_call 11; refine (HRS.out _ _ _ _ _ HV3.out HL10.out).mono ?_; rintro x w4 ⟨v4, rfl, hb, hv⟩; have HD4 := Lib.hid (HD3.out.below hb); have HM4 := Lib.hid (HM3.out.below hb); have HV4 := Lib.hid (HV3.out.below hb); rw [HME.out] at hv; have HMV4 := Lib.hid hv; clear hb hv)
            | (go_at_call 15; refine (HPOP.out _ _ _ HM4.out HL10.out).mono ?_; rintro x w5 ⟨⟨v5, rfl⟩, h1, h2⟩; have HM5 := Lib.hid h1; have HD5 := Lib.hid (Mine.apart HMW.out HD4.out h2); have HV5 := Lib.hid (HV4.out.keepC HM4.out.v h2 (by decide)); have HMV5 := Lib.hid (HMV4.out.keepC HM4.out.v h2 (by decide)); clear h1 h2; rw [HDN.out] at HM5)
            | (go_at_call 9; refine (HDUE.out _ _ _ HV6.out).mono ?_; rintro x w7 ⟨rfl, rfl⟩; rw [HDN.out])
            | (go_at_call 18; refine (HTOLD.out _ _ _ _ HM6.out.v HM6.out.ok (hdv.out _ HV6.out) (by have := HL10.out; rw [List.length_drop]; omega)).mono ?_; rintro x w8 ⟨rfl, hb⟩; have HM8 := Lib.hid (HM6.out.below hb); clear hb)
            | (go_at_call 18; with_reducible refine (HTOLD.out _ _ _ _ HD5.out HD4.out.ok HMV5.out.vec (by have := HML.out; omega)).mono ?_; rintro x w6 ⟨rfl, hb⟩; have HM6 := Lib.hid (HM5.out.below hb); have HV6 := Lib.hid (HV5.out.below hb); clear hb)
            | (go_at_call 19; refine (HLI.out _).mono ?_; rintro x w9 ⟨rfl, hb⟩; have HM9 := Lib.hid (HM8.out.below hb); clear hb))
          all_goals (go_ret; exact ⟨rfl, HM9.out.bel⟩)
        · go_wp2_with (first
            | (go_at_call 20; refine (HCO.out _ _ _ HMW.out).mono ?_; rintro x w2 ⟨b2, rfl, h1, h2, h3, h4⟩; have HD2 := Lib.hid (show Mine wr.heap.size wr w2 b2 l from ⟨h3, h3.size, h2, h4, HM.out.ok⟩); have HM2 := Lib.hid (HM.out.below h3); have HV2 := Lib.hid (HV.out.below h3); clear h1 h2 h3 h4)
            | (go_at_call 10; refine (HSET2.out _ _ _ _ _ _ _ HD2.out HK2.out HL10.out HAT.out).mono ?_; rintro x w3 ⟨⟨sc, rfl⟩, h⟩; have HD3 := Lib.hid h; have HM3 := Lib.hid (HM.out.below h.bel); have HV3 := Lib.hid (HV.out.below h.bel); clear h; rw [HME.out] at HD3)
            | (go_at_call 11; refine (HRS.out _ _ _ _ _ HV3.out HL10.out).mono ?_; rintro x w4 ⟨v4, rfl, hb, hv⟩; have HD4 := Lib.hid (HD3.out.below hb); have HM4 := Lib.hid (HM3.out.below hb); have HV4 := Lib.hid (HV3.out.below hb); rw [HME.out] at hv; have HMV4 := Lib.hid hv; clear hb hv)
            | (go_at_call 15; refine (HPOP.out _ _ _ HM4.out HL10.out).mono ?_; rintro x w5 ⟨⟨v5, rfl⟩, h1, h2⟩; have HM5 := Lib.hid h1; have HD5 := Lib.hid (Mine.apart HMW.out HD4.out h2); have HV5 := Lib.hid (HV4.out.keepC HM4.out.v h2 (by decide)); have HMV5 := Lib.hid (HMV4.out.keepC HM4.out.v h2 (by decide)); clear h1 h2; rw [HDN.out] at HM5)
            | (go_at_call 9; refine (HDUE.out _ _ _ HV6.out).mono ?_; rintro x w7 ⟨rfl, rfl⟩; rw [HDN.out])
            | (go_at_call 18; refine (HTOLD.out _ _ _ _ HM6.out.v HM6.out.ok (hdv.out _ HV6.out) (by have := HL10.out; rw [List.length_drop]; omega)).mono ?_; rintro x w8 ⟨rfl, hb⟩; have HM8 := Lib.hid (HM6.out.below hb); clear hb)
            | (go_at_call 18; with_reducible refine (HTOLD.out _ _ _ _ HD5.out HD4.out.ok HMV5.out.vec (by have := HML.out; omega)).mono ?_; rintro x w6 ⟨rfl, hb⟩; have HM6 := Lib.hid (HM5.out.below hb); have HV6 := Lib.hid (HV5.out.below hb); clear hb)
            | (go_at_call 19; refine (HLI.out _).mono ?_; rintro x w9 ⟨rfl, hb⟩; have HM9 := Lib.hid (HM8.out.below hb); clear hb))
          all_goals (go_ret; exact ⟨rfl, HM9.out.bel⟩)
end Go.Proofs.Ytiegeejbnplhdaa
