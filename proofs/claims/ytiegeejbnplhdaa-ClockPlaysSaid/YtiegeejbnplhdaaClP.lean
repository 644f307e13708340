/-
  The walk of ClockPlays.
-/
import Derived.Test.YtiegeejbnplhdaaClC
import Derived.Deep.RegionHeld3
import Derived.Deep.Cut
namespace Go.Proofs.Ytiegeejbnplhdaa
open Go.RowKit
set_option linter.unusedVariables false
set_option linter.unusedSimpArgs false

/-- A call's cells. -/
def acC (kd : Int) (k : List UInt8) (t : Int) : List Value := [.int .i64 kd, .string (Str k), .int .i64 t]
theorem ac_one (kd : Int) (k : List UInt8) (t : Int) : ∀ v ∈ acC kd k t, v.oneCell' = true := by
  intro v hv
  simp only [acC, List.mem_cons, List.not_mem_nil, or_false] at hv
  rcases hv with rfl | rfl | rfl <;> rfl
theorem ld_ac (a : Addr) : loadVar 28 a = aggLd 28 a := rfl
theorem ldr_ac (b o : Nat) (w : World) : (aggLd 28 ⟨b, o, none⟩).run Try.prog w = match row? w b o 3 with | some cs => .ok (.agg cs.toArray) w | none => aggLdSlow 28 b o w :=
  ld_run Try.underlying28 rfl (by kernel_rfl) b o w
theorem st_ac (a : Addr) (v : Value) : storeVar 28 a v = aggSt 28 a v := rfl
theorem str_ac (b : Nat) (cs : Array Value) (w : World) : (aggSt 28 ⟨b, 0, none⟩ (.agg cs)).run Try.prog w = match free? w b 0 3 && fok cs 3 with | true => .ok () (aggW w b cs.toList) | false => aggStSlow 28 b 0 (.agg cs) w :=
  st_run (by kernel_rfl) b cs w
attribute [local go_sem ↓] ld_ac st_ac
attribute [local go_sem] ldr_ac str_ac
theorem fok_ac (kd : Int) (k : List UInt8) (t : Int) : fok #[.int .i64 kd, .string (Str k), .int .i64 t] 3 = true := by
  have h1 : (acC kd k t).toArray.all (·.oneCell') = true := all_oneCell_toArray (ac_one kd k t)
  change fok (acC kd k t).toArray 3 = true
  simp only [fok, h1, Bool.and_true]
  rfl
theorem box_putA (w : World) (kd : Int) (k : List UInt8) (t : Int) : ObjAt (aggW (w.alloc (.cells #[.int .i64 0, .string ⟨#[]⟩, .int .i64 0] 28)) w.heap.size (acC kd k t)) w.heap.size (acC kd k t).toArray 28 ∧ Below w.heap.size w (aggW (w.alloc (.cells #[.int .i64 0, .string ⟨#[]⟩, .int .i64 0] 28)) w.heap.size (acC kd k t)) :=
  ⟨aggW_obj (L := [.int .i64 0, .string ⟨#[]⟩, .int .i64 0]) (ObjAt.made w _ _) rfl (ac_one kd k t), aggW_below (bbV w _) (Nat.le_refl _) _⟩
theorem ActAt.row {w : World} {b o : Nat} {a : AC} (h : ActAt w b o a) : row? w b o 3 = some [.int .i64 a.1, .string (Str a.2.1), .int .i64 a.2.2.1] := by
  refine row?_of (cs := [.int .i64 a.1, .string (Str a.2.1), .int .i64 a.2.2.1]) fun j u hu => ?_
  rcases j with _ | _ | _ | j
  · simp at hu; subst hu; exact h.c0
  · simp at hu; subst hu; exact h.c1
  · simp at hu; subst hu; exact h.c2
  · simp at hu
theorem obj_keepC {w w' : World} {p : Value} {m : List EN} {X : Nat} {cs : Array Value} {T : TypeId} (h : ObjAt w X cs T) (hc : ClkV w p m) (hk : Keep (ClkB w p) w w') (hT : T ≠ 51) : ObjAt w' X cs T :=
  (hk.block X h.lt (fun hb => hT (hc.kind hb h))).trans h
theorem had_is {l : List EN} (h : CkOk l) (k : List UInt8) : decide (findE l k ≥ 0) = hasE l k := by
  cases hh : hasE l k with
  | false => rw [find_no hh]; rfl
  | true =>
    obtain ⟨i, _, _, e, _⟩ := find_yes h hh
    rw [e]
    exact decide_eq_true (by omega)
theorem cell_lt {w : World} {b o : Nat} {v : Value} (h : w.cell? ⟨b, o, none⟩ = some v) : b < w.heap.size := by
  have h2 : (w.heap[b]?).isSome := by
    cases e : w.heap[b]? with
    | none => simp [World.cell?, e] at h
    | some _ => rfl
  obtain ⟨x, hx⟩ := Option.isSome_iff_exists.1 h2
  exact (Array.getElem?_eq_some_iff.1 hx).1
theorem vecS_take {α : Type} {K : Kind α} {T : TypeId} {W : World} {b o n len cap : Nat} {l : List α} (h : VecS K T W (.slice (some ⟨b, o, none⟩) len cap) l) (hl : len = l.length) (hn : n ≤ len) : VecS K T W (.slice (some ⟨b, o, none⟩) n cap) (l.take n) := by
  subst hl
  obtain ⟨q, c, e, _, _, h3⟩ := h.take hn
  simp only [Value.slice.injEq] at e
  rw [e.1, e.2.2]
  exact h3
theorem vecS_drop {α : Type} {K : Kind α} {T : TypeId} {W : World} {b o n len cap : Nat} {l : List α} (h : VecS K T W (.slice (some ⟨b, o, none⟩) len cap) l) (hl : len = l.length) (hn : n ≤ len) (hc : len ≤ cap) :
    VecS K T W (.slice (if cap = n then some ⟨b, o, none⟩ else some ⟨b, o + n * K.n, none⟩) (len - n) (cap - n)) (l.drop n) := by
  have e0 : (l.drop n).length = len - n := by rw [List.length_drop, hl]
  rcases h with ⟨e, _⟩ | ⟨b3, o3, c3, cs3, fr3, e, h1, h2, h3, h4⟩
  · cases e
  · simp only [Value.slice.injEq, Option.some.injEq, Addr.mk.injEq] at e
    obtain ⟨⟨rfl, rfl, _⟩, e1, rfl⟩ := e
    by_cases hcn : cap = n
    · rw [if_pos hcn]
      have h0 : l.drop n = [] := List.drop_of_length_le (by omega)
      refine .inr ⟨b, o, cap - n, cs3, fr3, by rw [← e0], by omega, by omega, h3, ?_⟩
      rw [h0]; exact fun i hi => absurd hi (by simp)
    · rw [if_neg hcn]
      exact .inr ⟨b, _, cap - n, cs3, fr3, by rw [← e0], by omega, by omega, h3, h4.drop n⟩
theorem cutE_len (l : List EN) (k : List UInt8) : (cutE l k).length ≤ l.length := List.length_filter_le _ _
set_option maxRecDepth 1000000 in
set_option maxHeartbeats 16000000 in
theorem ckplays_any (v0 : Value) (acts : List AC) (ask : List UInt8) (w : World) (ha : actsS w [v0] acts) (hask : ask.length ≤ maxLen) :
    Calls Try.prog 3 #[v0, .string (Str ask)] w fun x w' => x = .returned (.bool true) ∧ Below w.heap.size w w' := by
  obtain ⟨q, cap, rfl, hcl, hcm, hacts⟩ := acts_of ha
  obtain ⟨n, hn⟩ : ∃ n, n = acts.length := ⟨_, rfl⟩
  have HACT : Hid (∀ i (hi : i < n), ∃ b o kd k t, q = some ⟨b, o, none⟩ ∧ k.length ≤ maxLen ∧ (Lit.int .i64 t).wf = true ∧ ∀ W, Below w.heap.size w W → row? W b (o + i * 3) 3 = some [.int .i64 kd, .string (Str k), .int .i64 t]) := Lib.hid fun i hi => by
    obtain ⟨b, o, h1, h2, h3, h4, h5, h6⟩ := hacts i (by omega)
    exact ⟨b, o, _, _, _, h1, h4, h6, fun W hW => (h3.below hW h2).row⟩
  have hmx : n ≤ maxLen := by omega
  unfold maxLen at hmx
  rw [← hn]
  clear ha hacts hn hcl hcm
  have HNEW := Lib.hid (mnew_any w)
  have HCUT := Lib.hid (fun k hk W => cutk_any k hk W)
  have HASK := Lib.hid hask
  obtain ⟨ask2, HK2, HK2E⟩ : ∃ k2 : List UInt8, Hid (k2.length ≤ maxLen) ∧ Hid (ask.take 10 = k2) := ⟨_, Lib.hid (take10_le ask), Lib.hid rfl⟩
  obtain ⟨B, HBE⟩ : ∃ B, Hid (w.heap.size = B) := ⟨_, Lib.hid rfl⟩
  rw [HBE.out] at HNEW HACT ⊢
  have HSET : Hid (∀ W b l (k : List UInt8) (t : Int), Mine B w W b l → k.length ≤ maxLen → l.length ≤ 30 → (Lit.int .i64 t).wf = true → Calls Try.prog 10 #[.pointer (some ⟨b, 0, none⟩), .string (Str k), .int .i64 t] W fun x w' => x = .returned (.bool (!hasE l k)) ∧ Mine B w w' b (setE l k t) ∧ Keep (ClkB W (.pointer (some ⟨b, 0, none⟩))) W w') :=
    Lib.hid fun W b l k t h hk hl ht => mset_any h k t hk (by omega) ht
  have HCC : Hid (∀ W b l (k : List UInt8), Mine B w W b l → k.length ≤ maxLen → Calls Try.prog 12 #[.pointer (some ⟨b, 0, none⟩), .string (Str k)] W fun x w' => x = .returned (.bool (hasE l k)) ∧ Mine B w w' b (cutE l k) ∧ Keep (ClkB W (.pointer (some ⟨b, 0, none⟩))) W w') :=
    Lib.hid fun W b l k h hk => mcut_any h k hk
  have HRS : Hid (∀ W v l (k : List UInt8) t, VecS KE 53 W v l → l.length ≤ 30 → Calls Try.prog 11 #[v, .string (Str k), .int .i64 t] W fun x w' => ∃ v', x = .returned v' ∧ Below W.heap.size W w' ∧ VecS KE 53 w' v' (setE l k t)) :=
    Lib.hid fun W v l k t h hl => (set12_any v l k t W h.vec (by omega)).mono fun x w' ⟨v', hx, hb, ho⟩ => ⟨v', hx, hb, ho.vecS⟩
  have HRC : Hid (∀ W v l (k : List UInt8), VecS KE 53 W v l → l.length ≤ 30 → Calls Try.prog 13 #[v, .string (Str k)] W fun x w' => ∃ v', x = .returned v' ∧ Below W.heap.size W w' ∧ VecS KE 53 w' v' (cutE l k)) :=
    Lib.hid fun W v l k h hl => (cut12_any v l k W h.vec (by omega)).mono fun x w' ⟨v', hx, hb, ho⟩ => ⟨v', hx, hb, ho.vecS⟩
  have HPOP : Hid (∀ W b l t, Mine B w W b l → l.length ≤ 30 → Calls Try.prog 15 #[.pointer (some ⟨b, 0, none⟩), .int .i64 t] W fun x w' => ∃ v', x = .returned v' ∧ Mine B w w' b (l.drop (dueE l t)) ∧ Keep (ClkB W (.pointer (some ⟨b, 0, none⟩))) W w' ∧ OwnV KS 9 w' W.heap.size v' (keysE (l.take (dueE l t)))) :=
    Lib.hid fun W b l t h hl => mpop_any h t (by unfold SB; omega) (by omega)
  have HDU : Hid (∀ W b l t, Mine B w W b l → l.length ≤ 30 → Calls Try.prog 17 #[.pointer (some ⟨b, 0, none⟩), .int .i64 t] W fun x w' => ∃ v', x = .returned v' ∧ Below W.heap.size W w' ∧ OwnV KS 9 w' W.heap.size v' (keysE (l.take (dueE l t)))) :=
    Lib.hid fun W b l t h hl => ckdue_any _ l t W h.v h.ok (by unfold SB; omega) (by omega)
  have HDUE : Hid (∀ W v l t, VecS KE 53 W v l → Calls Try.prog 9 #[v, .int .i64 t] W fun x w' => x = .returned (.int .i64 (dueE l t : Nat)) ∧ W = w') := Lib.hid fun W v l t h => due12_any v l t W h.vec
  have HFI : Hid (∀ W v l k, VecS KE 53 W v l → Calls Try.prog 8 #[v, .string (Str k)] W fun x w' => x = .returned (.int .i64 (findE l k)) ∧ W = w') := Lib.hid fun W v l k h => find12_any v l k W h.vec
  have HKS : Hid (∀ W v l, VecS KE 53 W v l → l.length ≤ 30 → Calls Try.prog 16 #[v] W fun x w' => ∃ v', x = .returned v' ∧ Below W.heap.size W w' ∧ OwnV KS 9 w' W.heap.size v' (keysE l)) := Lib.hid fun W v l h hl => keys12_any v l W h.vec (by omega)
  have HSA : Hid (∀ ks a b W, Vec KS W a ks → Vec KS W b ks → Calls Try.prog 14 #[a, b] W fun x w' => x = .returned (.bool true) ∧ Below W.heap.size W w') := Lib.hid (fun ks a b W h1 h2 => by have := same12_any a b ks ks W h1 h2; rw [decide_eq_true rfl] at this; exact this.mono fun x w' ⟨hx, d, hd⟩ => ⟨hx, by rw [hd]; exact bdrewN (Below.refl _ _) _⟩)
  have HTOLD := Lib.hid (fun p v l W h1 h2 h3 h4 => told_any p v l ask2 W h1 h2 h3 HK2.out h4)
  have HLI := Lib.hid (fun W => lives12_any W)
  go_enter Try.func3, Try.ntmps3
  go_wp2_with (first
    | (go_at_call 6; refine HNEW.out.mono ?_; rintro x w1 ⟨rfl, h⟩; have H1 := Lib.hid h; clear h; have HE1 := Lib.hid (show VecS KE 53 (w1.alloc (.cells #[] 53)) (.slice (some ⟨w1.heap.size, 0, none⟩) 0 0) [] from .inr ⟨_, 0, 0, #[], (0, 0), rfl, Nat.le_refl _, by unfold maxLen; omega, ObjAt.made w1 #[] _, fun i hi => absurd hi (by simp)⟩); have H2 := Lib.hid (H1.out.below (bbV w1 (.cells #[] 53))))
    | (go_at_call 7; refine (HCUT.out _ HASK.out _).mono ?_; rintro x w2 ⟨rfl, rfl⟩; rw [HK2E.out]))
  go_loopw [6, 7] (fun u i wr => ∃ (k : Nat) (l : List EN), k ≤ n ∧ k ≤ 30 ∧ i = .int .i64 k ∧ Hid (Mine B w wr B l) ∧ Hid (VecS KE 53 wr u l) ∧ Hid (l.length ≤ k)) (fun _ i _ => n - (intOf i).toNat)
  case atStart => exact ⟨0, [], by omega, by omega, rfl, H2, HE1, Lib.hid (Nat.le_refl _)⟩
  case round =>
    clear H1 H2 HE1
    obtain ⟨k, l, hk, hk10, rfl, HM, HV, HL⟩ := hrel
    by_cases hlt : k < n ∧ k < 30
    · obtain ⟨hlt1, hlt2⟩ := hlt
      have hd1 : decide ((k : Int) < (n : Int)) = true := decide_eq_true (by omega)
      have hd2 : decide ((k : Int) < 30) = true := decide_eq_true (by omega)
      have hb1 : (k : Int) < (n : Int) := by omega
      have hb2 : (k : Int) < 30 := by omega
      have hw1 : IntKind.i64.wrap ((k : Int) + 1) = (k : Int) + 1 := by simp only [IntKind.wrap_i64]; omega
      have HL30 : Hid (l.length ≤ 30) := Lib.hid (by have := HL.out; omega)
      obtain ⟨ab, ao, kd, kk, tt, rfl, hkk, htt, hrow⟩ := HACT.out k hlt1
      have HKK := Lib.hid hkk
      have HTT := Lib.hid htt
      have r0 := hrow wr HM.out.bel
      have hle3 : 3 ≤ (#[.int .i64 0, .string ⟨#[]⟩, .int .i64 0] : Array Value).size := by decide
      have hfm := free_made wr #[.int .i64 0, .string ⟨#[]⟩, .int .i64 0] 28 3 hle3
      have hfok := fok_ac kd kk tt
      clear hrow hkk htt HACT HNEW
      obtain ⟨k2, HKL, HKE⟩ : ∃ k2 : List UInt8, Hid (k2.length ≤ maxLen) ∧ Hid (kk.take 10 = k2) := ⟨_, Lib.hid (take10_le kk), Lib.hid rfl⟩
      go_upto_region 7 with fail
      obtain ⟨q1, q2⟩ := box_putA wr kd kk tt
      obtain ⟨W, hW⟩ : ∃ W, W = aggW (wr.alloc (.cells #[.int .i64 0, .string ⟨#[]⟩, .int .i64 0] 28)) wr.heap.size [.int .i64 kd, .string (Str kk), .int .i64 tt] := ⟨_, rfl⟩
      rw [← hW]
      have HX0 : Hid (ObjAt W wr.heap.size #[.int .i64 kd, .string (Str kk), .int .i64 tt] 28) := Lib.hid (by rw [hW]; exact q1)
      have HBX : Hid (Below wr.heap.size wr W) := Lib.hid (by rw [hW]; exact q2)
      clear q1 q2 hW hfm hfok r0
      have HM0 := Lib.hid (HM.out.below HBX.out)
      have HV0 := Lib.hid (HV.out.below HBX.out)
      obtain ⟨X, HXE⟩ : ∃ X, Hid (wr.heap.size = X) := ⟨_, Lib.hid rfl⟩
      rw [HXE.out] at HX0 HBX ⊢
      have e1 : W.cell? ⟨X, 1, none⟩ = some (.string (Str kk)) := HX0.out.cell 1
      have f1 : W.frozen? ⟨X, 1, none⟩ = false := HX0.out.free 1
      go_upto_region 8 with (go_at_call 7; refine (HCUT.out _ HKK.out _).mono ?_; rintro x w2 ⟨rfl, rfl⟩; rw [HKE.out])
      have HBW : Hid (Below wr.heap.size wr (W.setCell ⟨X, 1, none⟩ (.string (Str k2)))) := Lib.hid (by rw [HXE.out]; exact HBX.out.setCell (Nat.le_refl _) _)
      have HX2 : Hid (ObjAt (W.setCell ⟨X, 1, none⟩ (.string (Str k2))) X #[.int .i64 kd, .string (Str k2), .int .i64 tt] 28) := Lib.hid (HX0.out.set 1 _)
      generalize W.setCell ⟨X, 1, none⟩ (.string (Str k2)) = W2 at HBW HX2 ⊢
      have HM2 := Lib.hid (HM.out.below HBW.out)
      have HV2 := Lib.hid (HV.out.below HBW.out)
      clear e1 f1 HM0 HV0 HX0 HBX
      obtain ⟨fi, HFE⟩ : ∃ fi, Hid (findE l k2 = fi) := ⟨_, Lib.hid rfl⟩
      obtain ⟨hs, HHS⟩ : ∃ hs, Hid (hasE l k2 = hs) := ⟨_, Lib.hid rfl⟩
      obtain ⟨dn, HDN⟩ : ∃ dn, Hid (dueE l tt = dn) := ⟨_, Lib.hid rfl⟩
      have HDL : Hid (dn ≤ l.length) := Lib.hid (by rw [← HDN.out]; exact dueE_le l tt)
      have hfi : decide (fi ≥ 0) = hs := by rw [← HFE.out, ← HHS.out]; exact had_is HM.out.ok.ck k2
      have c0 : W2.cell? ⟨X, 0, none⟩ = some (.int .i64 kd) := HX2.out.cell 0
      have c1 : W2.cell? ⟨X, 1, none⟩ = some (.string (Str k2)) := HX2.out.cell 1
      have c2 : W2.cell? ⟨X, 2, none⟩ = some (.int .i64 tt) := HX2.out.cell 2
      go_upto_region 13 with (first
        | (go_at_call 8; refine (HFI.out _ _ _ _ HV2.out).mono ?_; rintro x w2 ⟨rfl, rfl⟩; rw [HFE.out])
        | (go_at_call 9; (with_reducible refine (HDUE.out _ _ _ _ HV2.out).mono ?_); rintro x w2 ⟨rfl, rfl⟩; rw [HDN.out]))
      have hne1 : ((!hs) != (!hs)) = false := by cases hs <;> rfl
      have hne2 : (hs != hs) = false := by cases hs <;> rfl
      by_cases hk0 : kd = 0
      · subst hk0
        go_wp2_with (first
          | (go_at_call 10; refine (HSET.out _ _ _ _ _ HM2.out HKL.out HL30.out HTT.out).mono ?_; rintro x w3 ⟨rfl, h1, h2⟩; rw [HHS.out]; have H3 := Lib.hid h1; have HV3 := Lib.hid (HV2.out.keepC HM2.out.v h2 (by decide)); have d1 : w3.cell? ⟨X, 1, none⟩ = some (.string (Str k2)) := (obj_keepC HX2.out HM2.out.v h2 (by decide)).cell 1; have d2 : w3.cell? ⟨X, 2, none⟩ = some (.int .i64 tt) := (obj_keepC HX2.out HM2.out.v h2 (by decide)).cell 2; clear h1 h2)
          | (go_at_call 11; refine (HRS.out _ _ _ _ _ HV3.out HL30.out).mono ?_; rintro x w4 ⟨v4, rfl, hb, hv⟩; have H4 := Lib.hid (H3.out.below hb); have HV4 := Lib.hid hv; clear hb hv)
          | (go_at_call 18; refine (HTOLD.out _ _ _ _ H4.out.v H4.out.ok HV4.out.vec (by have := HL30.out; have := setE_len l k2 tt; have := cutE_len l k2; omega)).mono ?_; rintro x w5 ⟨rfl, hb⟩; have H5 := Lib.hid (H4.out.below hb); have HV5 := Lib.hid (HV4.out.below hb); clear hb))
        go_roundw
        case rel => exact ⟨k + 1, _, by omega, by omega, by go_num, H5, HV5, Lib.hid (by have := HL.out; have := setE_len l k2 tt; omega)⟩
        case measure => simp [intOf]; omega
      have m0 : (kd == 0) = false := by simpa using hk0
      by_cases hk1 : kd = 1
      · subst hk1
        clear hk0 m0
        go_wp2_with (first
          | (go_at_call 12; refine (HCC.out _ _ _ _ HM2.out HKL.out).mono ?_; rintro x w3 ⟨rfl, h1, h2⟩; rw [HHS.out]; have H3 := Lib.hid h1; have HV3 := Lib.hid (HV2.out.keepC HM2.out.v h2 (by decide)); have d1 : w3.cell? ⟨X, 1, none⟩ = some (.string (Str k2)) := (obj_keepC HX2.out HM2.out.v h2 (by decide)).cell 1; clear h1 h2)
          | (go_at_call 13; refine (HRC.out _ _ _ _ HV3.out HL30.out).mono ?_; rintro x w4 ⟨v4, rfl, hb, hv⟩; have H4 := Lib.hid (H3.out.below hb); have HV4 := Lib.hid hv; clear hb hv)
          | (go_at_call 18; refine (HTOLD.out _ _ _ _ H4.out.v H4.out.ok HV4.out.vec (by have := HL30.out; have := setE_len l k2 tt; have := cutE_len l k2; omega)).mono ?_; rintro x w5 ⟨rfl, hb⟩; have H5 := Lib.hid (H4.out.below hb); have HV5 := Lib.hid (HV4.out.below hb); clear hb))
        go_roundw
        case rel => exact ⟨k + 1, _, by omega, by omega, by go_num, H5, HV5, Lib.hid (by have := HL.out; have := cutE_len l k2; omega)⟩
        case measure => simp [intOf]; omega
      have m1 : (kd == 1) = false := by simpa using hk1
      have HTL : Hid ((l.take dn).length ≤ 30) := Lib.hid (by rw [List.length_take]; have := HL30.out; omega)
      have HDR : Hid ((l.drop dn).length ≤ l.length) := Lib.hid (by rw [List.length_drop]; omega)
      by_cases hk2 : kd = 2
      · subst hk2
        clear hk0 m0 hk1 m1
        rcases HV2.out with ⟨rfl, hl0⟩ | ⟨eb, eo, ecap, ecs, efr, rfl, hec, hem, heb, heA⟩
        · have hdn : dn = 0 := by have := HDL.out; rw [hl0] at this; simpa using this
          subst hdn
          have HT : Hid (∀ W, VecS KE 53 W (.slice none 0 0) (l.take 0)) := Lib.hid fun W => .inl ⟨rfl, rfl⟩
          have HD : Hid (∀ W, VecS KE 53 W (.slice none 0 0) (l.drop 0)) := Lib.hid fun W => by rw [hl0]; exact .inl ⟨rfl, rfl⟩
          clear hl0
          go_upto_region 22 with fail
          go_region_held3 (fun W => W.cell? ⟨X, 2, none⟩ = some (.int .i64 tt)) (first | assumption | exact c2) (first
            | (go_at_call 15; refine (HPOP.out _ _ _ _ (Mine.below HM2.out (bdrewN (Below.refl _ _) 1)) HL30.out).mono ?_; rintro x w3 ⟨v3, rfl, h1, h2, h3⟩; rw [HDN.out] at h1 h3; have H3 := Lib.hid h1; have HO3 := Lib.hid h3; have HV3 := Lib.hid ((HV2.out.below (bdrewN (Below.refl _ _) 1)).keepC (HM2.out.v.below (bdrewN (Below.refl _ _) 1)) h2 (by decide)); have hk : w3.cell? ⟨X, 2, none⟩ = some (.int .i64 tt) := (obj_keepC (HX2.out.drewN 1) (HM2.out.v.below (bdrewN (Below.refl _ _) 1)) h2 (by decide)).cell 2; clear h1 h2 h3)
            | (go_at_call 16; refine (HKS.out _ _ _ (HT.out _) HTL.out).mono ?_; rintro x w4 ⟨v4, rfl, hb, hw⟩; have H4 := Lib.hid (H3.out.below hb); have HV4 := Lib.hid (HV3.out.below hb); have HO4 := Lib.hid hw; have HK4 := Lib.hid (HO3.out.vec.below hb); have hkk : w4.cell? ⟨X, 2, none⟩ = some (.int .i64 tt) := (hb.cell (p := ⟨X, 2, none⟩) (cell_lt hk)).trans hk; clear hb hw)
            | (go_at_call 14; refine (HSA.out _ _ _ _ HK4.out HO4.out.vec).mono ?_; rintro x w6 ⟨rfl, hb⟩; have H6 := Lib.hid (H4.out.below hb); have HV6 := Lib.hid (HV4.out.below hb); have hk6 : w6.cell? ⟨X, 2, none⟩ = some (.int .i64 tt) := (hb.cell (p := ⟨X, 2, none⟩) (cell_lt hkk)).trans hkk; clear hb))
          (try clear hk hkk)
          go_wp2_with (first | (go_at_call 18; refine (HTOLD.out _ _ _ _ H6.out.v H6.out.ok (HD.out _).vec (by have := HL30.out; have := HDR.out; omega)).mono ?_; rintro x w7 ⟨rfl, hb⟩; have H7 := Lib.hid (H6.out.below hb); clear hb))
          go_roundw
          case rel => exact ⟨k + 1, _, by omega, by omega, by go_num, H7, Lib.hid (HD.out _), Lib.hid (by have := HL.out; have := HDR.out; omega)⟩
          case measure => simp [intOf]; omega
        · obtain ⟨el, HEL⟩ : ∃ el, Hid (l.length = el) := ⟨_, Lib.hid rfl⟩
          have hd0 : dn ≤ el := by have := HDL.out; have := HEL.out; omega
          have hd1 : (dn : Int) ≤ (el : Int) := by omega
          have hd2 : el ≤ ecap := by have := HEL.out; omega
          have hd3 : (el : Int) ≤ (ecap : Int) := by omega
          have hd4 : (dn : Int) ≤ (ecap : Int) := by omega
          rw [HEL.out] at HV2 ⊢
          have HT : Hid (∀ W, VecS KE 53 W (.slice (some ⟨eb, eo, none⟩) el ecap) l → VecS KE 53 W (.slice (some ⟨eb, eo, none⟩) dn ecap) (l.take dn)) := Lib.hid fun W h => vecS_take h HEL.out.symm hd0
          have HD : Hid (∀ W, VecS KE 53 W (.slice (some ⟨eb, eo, none⟩) el ecap) l → VecS KE 53 W (.slice (if ecap = dn then some ⟨eb, eo, none⟩ else some ⟨eb, eo + dn * 2, none⟩) (el - dn) (ecap - dn)) (l.drop dn)) := Lib.hid fun W h => vecS_drop h HEL.out.symm hd0 hd2
          clear hec hem heb heA
          go_upto_region 22 with fail
          go_region_held3 (fun W => W.cell? ⟨X, 2, none⟩ = some (.int .i64 tt)) (first | assumption | exact c2) (first
            | (go_at_call 15; refine (HPOP.out _ _ _ _ (Mine.below HM2.out (bdrewN (Below.refl _ _) 1)) HL30.out).mono ?_; rintro x w3 ⟨v3, rfl, h1, h2, h3⟩; rw [HDN.out] at h1 h3; have H3 := Lib.hid h1; have HO3 := Lib.hid h3; have HV3 := Lib.hid ((HV2.out.below (bdrewN (Below.refl _ _) 1)).keepC (HM2.out.v.below (bdrewN (Below.refl _ _) 1)) h2 (by decide)); have hk : w3.cell? ⟨X, 2, none⟩ = some (.int .i64 tt) := (obj_keepC (HX2.out.drewN 1) (HM2.out.v.below (bdrewN (Below.refl _ _) 1)) h2 (by decide)).cell 2; clear h1 h2 h3)
            | (go_at_call 16; refine (HKS.out _ _ _ (HT.out _ HV3.out) HTL.out).mono ?_; rintro x w4 ⟨v4, rfl, hb, hw⟩; have H4 := Lib.hid (H3.out.below hb); have HV4 := Lib.hid (HV3.out.below hb); have HO4 := Lib.hid hw; have HK4 := Lib.hid (HO3.out.vec.below hb); have hkk : w4.cell? ⟨X, 2, none⟩ = some (.int .i64 tt) := (hb.cell (p := ⟨X, 2, none⟩) (cell_lt hk)).trans hk; clear hb hw)
            | (go_at_call 14; refine (HSA.out _ _ _ _ HK4.out HO4.out.vec).mono ?_; rintro x w6 ⟨rfl, hb⟩; have H6 := Lib.hid (H4.out.below hb); have HV6 := Lib.hid (HV4.out.below hb); have hk6 : w6.cell? ⟨X, 2, none⟩ = some (.int .i64 tt) := (hb.cell (p := ⟨X, 2, none⟩) (cell_lt hkk)).trans hkk; clear hb))
          (try clear hk hkk)
          go_wp2_with (first | (go_at_call 18; refine (HTOLD.out _ _ _ _ H6.out.v H6.out.ok (HD.out _ HV6.out).vec (by have := HL30.out; have := HDR.out; omega)).mono ?_; rintro x w7 ⟨rfl, hb⟩; have H7 := Lib.hid (H6.out.below hb); have HV7 := Lib.hid (HV6.out.below hb); clear hb))
          go_roundw
          case rel => exact ⟨k + 1, _, by omega, by omega, by go_num, H7, Lib.hid (HD.out _ HV7.out), Lib.hid (by have := HL.out; have := HDR.out; omega)⟩
          case measure => simp [intOf]; omega
      · have m2 : (kd == 2) = false := by simpa using hk2
        rcases HV2.out with ⟨rfl, hl0⟩ | ⟨eb, eo, ecap, ecs, efr, rfl, hec, hem, heb, heA⟩
        · have hdn : dn = 0 := by have := HDL.out; rw [hl0] at this; simpa using this
          subst hdn
          have HT : Hid (∀ W, VecS KE 53 W (.slice none 0 0) (l.take 0)) := Lib.hid fun W => .inl ⟨rfl, rfl⟩
          clear hl0
          go_upto_region 11 with fail
          go_region_held3 (fun W => W.cell? ⟨X, 2, none⟩ = some (.int .i64 tt)) (first | assumption | exact c2) (first
            | (go_at_call 17; refine (HDU.out _ _ _ _ (Mine.below HM2.out (bdrewN (Below.refl _ _) 1)) HL30.out).mono ?_; rintro x w3 ⟨v3, rfl, h2, h3⟩; rw [HDN.out] at h3; have H3 := Lib.hid ((Mine.below HM2.out (bdrewN (Below.refl _ _) 1)).below h2); have HO3 := Lib.hid h3; have HV3 := Lib.hid ((HV2.out.below (bdrewN (Below.refl _ _) 1)).below h2); have hk : w3.cell? ⟨X, 2, none⟩ = some (.int .i64 tt) := ((HX2.out.drewN 1).below h2 (HX2.out.drewN 1).lt).cell 2; clear h2 h3)
            | (go_at_call 16; refine (HKS.out _ _ _ (HT.out _) HTL.out).mono ?_; rintro x w4 ⟨v4, rfl, hb, hw⟩; have H4 := Lib.hid (H3.out.below hb); have HV4 := Lib.hid (HV3.out.below hb); have HO4 := Lib.hid hw; have HK4 := Lib.hid (HO3.out.vec.below hb); have hkk : w4.cell? ⟨X, 2, none⟩ = some (.int .i64 tt) := (hb.cell (p := ⟨X, 2, none⟩) (cell_lt hk)).trans hk; clear hb hw)
            | (go_at_call 14; refine (HSA.out _ _ _ _ HK4.out HO4.out.vec).mono ?_; rintro x w6 ⟨rfl, hb⟩; have H6 := Lib.hid (H4.out.below hb); have HV6 := Lib.hid (HV4.out.below hb); have hk6 : w6.cell? ⟨X, 2, none⟩ = some (.int .i64 tt) := (hb.cell (p := ⟨X, 2, none⟩) (cell_lt hkk)).trans hkk; clear hb))
          (try clear hk hkk)
          go_wp2_with (first | (go_at_call 18; refine (HTOLD.out _ _ _ _ H6.out.v H6.out.ok HV6.out.vec (by have := HL30.out; omega)).mono ?_; rintro x w7 ⟨rfl, hb⟩; have H7 := Lib.hid (H6.out.below hb); have HV7 := Lib.hid (HV6.out.below hb); clear hb))
          go_roundw
          case rel => exact ⟨k + 1, _, by omega, by omega, by go_num, H7, HV7, Lib.hid (by have := HL.out; omega)⟩
          case measure => simp [intOf]; omega
        · obtain ⟨el, HEL⟩ : ∃ el, Hid (l.length = el) := ⟨_, Lib.hid rfl⟩
          have hd0 : dn ≤ el := by have := HDL.out; have := HEL.out; omega
          have hd1 : (dn : Int) ≤ (el : Int) := by omega
          have hd2 : el ≤ ecap := by have := HEL.out; omega
          have hd3 : (el : Int) ≤ (ecap : Int) := by omega
          have hd4 : (dn : Int) ≤ (ecap : Int) := by omega
          rw [HEL.out] at HV2 ⊢
          have HT : Hid (∀ W, VecS KE 53 W (.slice (some ⟨eb, eo, none⟩) el ecap) l → VecS KE 53 W (.slice (some ⟨eb, eo, none⟩) dn ecap) (l.take dn)) := Lib.hid fun W h => vecS_take h HEL.out.symm hd0
          clear hec hem heb heA
          go_upto_region 11 with fail
          go_region_held3 (fun W => W.cell? ⟨X, 2, none⟩ = some (.int .i64 tt)) (first | assumption | exact c2) (first
            | (go_at_call 17; refine (HDU.out _ _ _ _ (Mine.below HM2.out (bdrewN (Below.refl _ _) 1)) HL30.out).mono ?_; rintro x w3 ⟨v3, rfl, h2, h3⟩; rw [HDN.out] at h3; have H3 := Lib.hid ((Mine.below HM2.out (bdrewN (Below.refl _ _) 1)).below h2); have HO3 := Lib.hid h3; have HV3 := Lib.hid ((HV2.out.below (bdrewN (Below.refl _ _) 1)).below h2); have hk : w3.cell? ⟨X, 2, none⟩ = some (.int .i64 tt) := ((HX2.out.drewN 1).below h2 (HX2.out.drewN 1).lt).cell 2; clear h2 h3)
            | (go_at_call 16; refine (HKS.out _ _ _ (HT.out _ HV3.out) HTL.out).mono ?_; rintro x w4 ⟨v4, rfl, hb, hw⟩; have H4 := Lib.hid (H3.out.below hb); have HV4 := Lib.hid (HV3.out.below hb); have HO4 := Lib.hid hw; have HK4 := Lib.hid (HO3.out.vec.below hb); have hkk : w4.cell? ⟨X, 2, none⟩ = some (.int .i64 tt) := (hb.cell (p := ⟨X, 2, none⟩) (cell_lt hk)).trans hk; clear hb hw)
            | (go_at_call 14; refine (HSA.out _ _ _ _ HK4.out HO4.out.vec).mono ?_; rintro x w6 ⟨rfl, hb⟩; have H6 := Lib.hid (H4.out.below hb); have HV6 := Lib.hid (HV4.out.below hb); have hk6 : w6.cell? ⟨X, 2, none⟩ = some (.int .i64 tt) := (hb.cell (p := ⟨X, 2, none⟩) (cell_lt hkk)).trans hkk; clear hb))
          (try clear hk hkk)
          go_wp2_with (first | (go_at_call 18; refine (HTOLD.out _ _ _ _ H6.out.v H6.out.ok HV6.out.vec (by have := HL30.out; omega)).mono ?_; rintro x w7 ⟨rfl, hb⟩; have H7 := Lib.hid (H6.out.below hb); have HV7 := Lib.hid (HV6.out.below hb); clear hb))
          go_roundw
          case rel => exact ⟨k + 1, _, by omega, by omega, by go_num, H7, HV7, Lib.hid (by have := HL.out; omega)⟩
          case measure => simp [intOf]; omega
    · have hstop : (¬ (k : Int) < (n : Int)) ∨ ((k : Int) < (n : Int) ∧ decide ((k : Int) < 30) = false) := by
        by_cases h : k < n
        · right; exact ⟨by omega, decide_eq_false (by omega)⟩
        · left; omega
      rcases hstop with hs | ⟨hs, hs2⟩
      · go_wp2_with (first | (go_at_call 19; refine (HLI.out _).mono ?_; rintro x w9 ⟨rfl, hb⟩; have HM9 := Lib.hid (HM.out.below hb); clear hb))
        all_goals (go_ret; exact ⟨rfl, HM9.out.bel⟩)
      · go_wp2_with (first | (go_at_call 19; refine (HLI.out _).mono ?_; rintro x w9 ⟨rfl, hb⟩; have HM9 := Lib.hid (HM.out.below hb); clear hb))
        all_goals (go_ret; exact ⟨rfl, HM9.out.bel⟩)
end Go.Proofs.Ytiegeejbnplhdaa
