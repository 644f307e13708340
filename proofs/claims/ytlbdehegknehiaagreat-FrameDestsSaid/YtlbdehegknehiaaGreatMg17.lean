/-
  Texts joined: EthE, EthF.
-/
import Derived.Test.YtlbdehegknehiaaGreatMg00
import Derived.Test.YtlbdehegknehiaaGreatMg16
/- A part of the proof. -/
namespace Go.Proofs.YtlbdehegknehiaaGreat
set_option maxRecDepth 100000
set_option maxHeartbeats 2000000
open Go.RowKit
set_option linter.unusedVariables false
attribute [local go_sem ↓] bld_eth ld_eth st_eth ld_mac st_mac
attribute [local go_sem] ldr_eth str_eth ldr_mac str_mac
def zeroE : Eth := ⟨[0, 0, 0, 0, 0, 0], [0, 0, 0, 0, 0, 0], false, 0, 0, 0, []⟩
theorem zeroE_ok : zeroE.ok := ⟨rfl, rfl⟩
theorem zeroE_cells : (ethC zeroE).toArray = zze := rfl
theorem bld_zero (w0 : World) : (aggBuild 54 #[]).run Tryz.prog w0 = .ok (.agg (ethC zeroE).toArray) w0 := bld_run _ _ _ (by kernel_rfl) _
theorem bld_three (t f : List UInt8) (n : Int) (ht : t.length = 6) (hf : f.length = 6) (w0 : World) : (aggBuild 54 #[(0, .agg (B8 t).toArray), (1, .agg (B8 f).toArray), (5, .int .i64 n)]).run Tryz.prog w0 = .ok (.agg (ethC ⟨t, f, false, 0, 0, n, []⟩).toArray) w0 := by
  obtain ⟨a0, a1, a2, a3, a4, a5, rfl⟩ := list6 ht
  obtain ⟨b0, b1, b2, b3, b4, b5, rfl⟩ := list6 hf
  exact bld_run _ _ _ (by kernel_rfl) _
theorem ethC_set (e : Eth) (ho : e.ok) (j : Nat) (v : Value) : (ethC e).toArray.setIfInBounds (12 + j) v = (B8 e.to ++ (B8 e.fr ++ [.bool e.tg, .int .i64 e.vl, .int .i64 e.pr, .int .i64 e.ty, .string (Str e.bd)].set j v)).toArray := by
  apply Array.ext'
  rw [Array.toList_setIfInBounds]
  show (ethC e).set (12 + j) v = _
  unfold ethC
  rw [List.set_append_right _ _ (by rw [B8_length, ho.1]; omega), List.set_append_right _ _ (by rw [B8_length, B8_length, ho.1, ho.2]; omega), B8_length, B8_length, ho.1, ho.2, show 12 + j - 6 - 6 = j by omega]
def R0 (w W : World) (l : List UInt8) (k : Nat) (bad : Bool) : Prop :=
  RdAt W (w.heap.size + 1) l k bad ∧ ObjAt W w.heap.size (ethC zeroE).toArray 54 ∧ Below w.heap.size w W
theorem R0.start (w : World) (s : List UInt8) : R0 w ((w.alloc (.cells (ethC zeroE).toArray 54)).alloc (.cells #[.string (Str s), .int .i64 0, .bool false] 164)) s 0 false := by
  refine ⟨?_, (ObjAt.made w _ _).alloc _, ((Below.refl _ _).alloc (Nat.le_refl _) _).alloc (by simp) _⟩
  have := ObjAt.made (w.alloc (.cells (ethC zeroE).toArray 54)) #[.string (Str s), .int .i64 0, .bool false] 164
  rw [show (w.alloc (.cells (ethC zeroE).toArray 54)).heap.size = w.heap.size + 1 by simp] at this
  exact this
theorem R0.grown {w W W' : World} {l l' : List UInt8} {k k' : Nat} {bad bad' : Bool} (h : R0 w W l k bad) (hr : RdAt W' (w.heap.size + 1) l' k' bad') (hg : W.grownBy W' (some (w.heap.size + 1))) : R0 w W' l' k' bad' :=
  ⟨hr, ObjAt.grown h.2.1 hg (by simp), h.2.2.grown hg (by have := ObjAt.lt h.2.1; omega) (fun n hn => by simp at hn; omega)⟩
def RSe (w W : World) (m : Nat) (l : List UInt8) (k : Nat) (bad : Bool) (e : Eth) : Prop := R0 w W l k bad ∧ EthAt W m e ∧ w.heap.size + 1 < m ∧ e.ok
theorem RSe.grown {w W W' : World} {m : Nat} {l l' : List UInt8} {k k' : Nat} {bad bad' : Bool} {e : Eth} (h : RSe w W m l k bad e) (hr : RdAt W' (w.heap.size + 1) l' k' bad') (hg : W.grownBy W' (some (w.heap.size + 1))) : RSe w W' m l' k' bad' e :=
  ⟨h.1.grown hr hg, ObjAt.grown h.2.1 hg (by have := h.2.2.1; simp; omega), h.2.2.1, h.2.2.2⟩
theorem RSe.below {w W W' : World} {m : Nat} {l : List UInt8} {k : Nat} {bad : Bool} {e : Eth} (h : RSe w W m l k bad e) (hb : Below W.heap.size W W') : RSe w W' m l k bad e :=
  ⟨⟨ObjAt.below h.1.1 hb (ObjAt.lt h.1.1), ObjAt.below h.1.2.1 hb (ObjAt.lt h.1.2.1), bstep h.1.2.2 hb⟩, h.2.1.below hb, h.2.2.1, h.2.2.2⟩
theorem RSe.drewN {w W : World} {m : Nat} {l : List UInt8} {k : Nat} {bad : Bool} {e : Eth} (h : RSe w W m l k bad e) (n : Nat) : RSe w (W.drewN n) m l k bad e := h.below (bdrewN (Below.refl _ _) n)
theorem RSe.set {w W : World} {m : Nat} {l : List UInt8} {k : Nat} {bad : Bool} {e e' : Eth} (h : RSe w W m l k bad e) (j : Nat) (v : Value) (he : B8 e.to ++ (B8 e.fr ++ [.bool e.tg, .int .i64 e.vl, .int .i64 e.pr, .int .i64 e.ty, .string (Str e.bd)].set j v) = ethC e') (ho : e'.ok) : RSe w (W.setCell ⟨m, 12 + j, none⟩ v) m l k bad e' := by
  obtain ⟨⟨h1, h2, h3⟩, h4, h5, h6⟩ := h
  refine ⟨⟨ObjAt.other h1 ⟨m, 12 + j, none⟩ v (by show w.heap.size + 1 ≠ m; omega), ObjAt.other h2 ⟨m, 12 + j, none⟩ v (by show w.heap.size ≠ m; omega), h3.setCell (p := ⟨m, 12 + j, none⟩) (by show w.heap.size ≤ m; omega) v⟩, ?_, h5, ho⟩
  have := ObjAt.set h4 (12 + j) v
  rw [ethC_set e h6, he] at this
  exact this
theorem RSe.made {w W : World} {l : List UInt8} {k : Nat} {bad : Bool} (h : R0 w W l k bad) (e : Eth) (ho : e.ok) : RSe w (aggW (W.alloc (.cells (ethC zeroE).toArray 54)) W.heap.size (ethC e)) W.heap.size l k bad e := by
  obtain ⟨h1, h2, h3⟩ := h
  have l1 := ObjAt.lt h1
  have l2 := ObjAt.lt h2
  exact ⟨⟨aggW_other (ObjAt.alloc h1 _) _ (by omega), aggW_other (h2.alloc _) _ (by omega), aggW_below (h3.alloc (by omega) _) (by omega) _⟩, aggW_obj (ObjAt.made W (ethC zeroE).toArray 54) (by rw [ethC_length ho, ethC_length zeroE_ok]) (ethC_one e), by omega, ho⟩
theorem RSe.free {w W : World} {m : Nat} {l : List UInt8} {k : Nat} {bad : Bool} {e : Eth} (h : RSe w W m l k bad e) : free? W w.heap.size 0 17 = true := obj_free h.1.2.1 (by simp [ethC_length zeroE_ok])
theorem RSe.done {w W : World} {m : Nat} {l : List UInt8} {k : Nat} {bad : Bool} {e : Eth} (h : RSe w W m l k bad e) (e' : Eth) (ho : e'.ok) : row? (aggW W w.heap.size (ethC e')) w.heap.size 0 17 = some (ethC e') ∧ Below w.heap.size w (aggW W w.heap.size (ethC e')) :=
  ⟨aggW_row h.free (ethC_length ho), aggW_below h.1.2.2 (Nat.le_refl _) _⟩
def coreV (bad : Bool) (word : Nat) (e : Eth) : Eth × Int :=
  if bad then (zeroE, 3) else if bitsN word 12 1 ≠ 0 ∨ goodTgV e.tg e.vl e.pr = false ∨ goodTyV e.ty = false then (zeroE, 5) else if 1500 < e.bd.length then (zeroE, 6) else (e, 0)
theorem read_un (w : World) (s l1 l2 l3 t1 t2 : List UInt8) (k1 k2 k3 n3 : Nat) (b1 b2 b3 : Bool) (hs : s.length ≤ 1000000)
    (H1 : Hid (∀ W, RdAt W (w.heap.size + 1) s 0 false → Calls Tryz.prog 83 #[.pointer (some ⟨w.heap.size + 1, 0, none⟩)] W fun x w' => x = .returned (.agg (B8 t1).toArray) ∧ RdAt w' (w.heap.size + 1) l1 k1 b1 ∧ W.grownBy w' (some (w.heap.size + 1))))
    (H2 : Hid (∀ W, RdAt W (w.heap.size + 1) l1 k1 b1 → Calls Tryz.prog 83 #[.pointer (some ⟨w.heap.size + 1, 0, none⟩)] W fun x w' => x = .returned (.agg (B8 t2).toArray) ∧ RdAt w' (w.heap.size + 1) l2 k2 b2 ∧ W.grownBy w' (some (w.heap.size + 1))))
    (H3 : Hid (∀ W, RdAt W (w.heap.size + 1) l2 k2 b2 → Calls Tryz.prog 84 #[.pointer (some ⟨w.heap.size + 1, 0, none⟩), .int .i64 2] W fun x w' => x = .returned (.int .u64 n3) ∧ RdAt w' (w.heap.size + 1) l3 k3 b3 ∧ W.grownBy w' (some (w.heap.size + 1))))
    (hn3 : n3 < 65536) (hne : n3 ≠ 33024) (ht1 : t1.length = 6) (ht2 : t2.length = 6) (hl3 : l3.length ≤ 1000000)
    (E : Eth) (hE : E = ⟨t1, t2, false, 0, 0, n3, l3⟩) (R : Eth × Int) (hR : R = coreV b3 0 E) :
    Calls Tryz.prog 37 #[.string (Str s)] w fun x w' => x = .returned (.tuple #[.agg (ethC R.1).toArray, .int .i64 R.2]) ∧ Below w.heap.size w w' := by
  have hnk : ((n3 : Int) == 33024) = false := by simp; omega
  have hcv : IntKind.i64.wrap (n3 : Int) = (n3 : Int) := by simp only [IntKind.wrap_i64]; omega
  have hb0 := bld_three t1 t2 (n3 : Int) ht1 ht2
  have hbz := bld_zero
  have ho0 : (⟨t1, t2, false, 0, 0, n3, []⟩ : Eth).ok := ⟨ht1, ht2⟩
  have hoE : E.ok := by rw [hE]; exact ⟨ht1, ht2⟩
  have hfok0 := fok_eth ho0
  have hfokz := fok_eth zeroE_ok
  have hfokE := fok_eth hoE
  have h0 := R0.start w s
  rw [zeroE_cells] at h0
  have H0 := zh h0
  have HO0 := zh ho0
  have HE := zh hE
  have HRR := zh hR
  have HO := zh hoE
  have hsz := Str_size l3
  have HL := zh (show E.bd.length ≤ 1000000 by rw [hE]; exact hl3)
  clear hR ht1 ht2 hn3 hne hs hE hoE ho0
  go_enter Tryz.func37, Tryz.ntmps37
  go_upto_region 2 with (go_at_call 82; refine (new_any (Str s) _).mono ?_; rintro x w1 ⟨rfl, rfl⟩)
  generalize (w.alloc (.cells zze 54)).alloc (.cells #[.string (Str s), .int .i64 0, .bool false] 164) = W at H0 ⊢
  have hr0 := H0.out.1
  go_upto_region 4 with (first
    | (go_at_call 83; (with_reducible refine (H1.out _ hr0).mono ?_); rintro x w1 ⟨rfl, hr1, hg1⟩; have G1 := zh (H0.out.grown hr1 hg1); clear hg1)
    | (go_at_call 83; (with_reducible refine (H2.out _ hr1).mono ?_); rintro x w2 ⟨rfl, hr2, hg2⟩; have G2 := zh (G1.out.grown hr2 hg2); clear hg2)
    | (go_at_call 84; (with_reducible refine (H3.out _ hr2).mono ?_); rintro x w3 ⟨rfl, hr3, hg3⟩; have G3 := zh (G2.out.grown hr3 hg3); have hf3 := free_made w3 zze 54 17 (by simp); have hs3 := RSe.made G3.out _ HO0.out; rw [zeroE_cells] at hs3; have GS := zh hs3; clear hg3 hs3))
  generalize aggW (w3.alloc (.cells zze 54)) w3.heap.size _ = W4 at GS ⊢
  clear hf3
  generalize w3.heap.size = m at GS ⊢
  have HWORD : Hid (0 ≤ 18446744073709551615) := zh (by omega)
  have c4 := GS.out.2.1.ty HO0.out
  simp only at c4
  go_upto_region 9 with (fail)
  clear c4
  have c5 := GS.out.2.1.bd HO0.out
  have f5 := EthAt.frz GS.out.2.1 16
  have GT := zh (RSe.set (e' := E) GS.out 4 (.string (Str l3)) (by rw [HE.out]; rfl) HO.out)
  go_upto_region 10 with (go_at_call 86; (refine (rest_any _ _ _ _ _ GS.out.1.1).mono ?_); rintro x w5 ⟨rfl, rfl⟩)
  generalize World.setCell _ _ _ = W5 at GT ⊢
  clear c5 f5
  have hf := GT.out.free
  cases b3 with
  | true =>
    have HV := zh (show R = (zeroE, 3) by rw [HRR.out]; rfl)
    go_wp2_with (go_at_call 87; (refine (bad_any _ _ _ _ _ GT.out.1.1).mono ?_); rintro x w6 ⟨rfl, rfl⟩)
    obtain ⟨q1, q2⟩ := GT.out.done zeroE zeroE_ok
    exact bodyPost_ret (results_cell2 Tryz.results37 rfl (ld_some q1 (ldr_eth _ _ _))) rfl ⟨by rw [HV.out]; rfl, q2⟩
  | false =>
    have hr := GT.out.2.1.row HO.out
    by_cases hb : bitsN 0 12 1 = 0
    · have hb1 : ((0 : Int) != 0) = false := rfl
      have HB := zh hb; clear hb
      cases hg : goodTgV E.tg E.vl E.pr with
      | false =>
        have HV := zh (show R = (zeroE, 5) by rw [HRR.out]; simp [coreV, hg])
        have HG := zh hg; clear hg
        go_wp2_with (first
          | (go_at_call 87; (refine (bad_any _ _ _ _ _ GT.out.1.1).mono ?_); rintro x w6 ⟨rfl, rfl⟩)
          | (go_at_call 85; refine (bits_any 0 HWORD.out 12 1 _).mono ?_; rintro x w7 ⟨rfl, d, rfl⟩; rw [HB.out]; have GU := zh (GT.out.drewN d); clear hr hf; have hr := GU.out.2.1.row HO.out)
          | (go_at_call 88; refine (goodTag_any E HO.out _).mono ?_; rintro x w8 ⟨rfl, hb8⟩; rw [HG.out]; have GW := zh (GU.out.below hb8); clear hr hb8; have hf := GW.out.free))
        obtain ⟨q1, q2⟩ := GW.out.done zeroE zeroE_ok
        exact bodyPost_ret (results_cell2 Tryz.results37 rfl (ld_some q1 (ldr_eth _ _ _))) rfl ⟨by rw [HV.out]; rfl, q2⟩
      | true =>
        have HG := zh hg
        cases hy : goodTyV E.ty with
        | false =>
          have HV := zh (show R = (zeroE, 5) by rw [HRR.out]; simp [coreV, hy])
          have HY := zh hy; clear hg hy
          go_wp2_with (first
            | (go_at_call 87; (refine (bad_any _ _ _ _ _ GT.out.1.1).mono ?_); rintro x w6 ⟨rfl, rfl⟩)
            | (go_at_call 85; refine (bits_any 0 HWORD.out 12 1 _).mono ?_; rintro x w7 ⟨rfl, d, rfl⟩; rw [HB.out]; have GU := zh (GT.out.drewN d); clear hr hf; have hr := GU.out.2.1.row HO.out)
            | (go_at_call 88; refine (goodTag_any E HO.out _).mono ?_; rintro x w8 ⟨rfl, hb8⟩; rw [HG.out]; have GW := zh (GU.out.below hb8); clear hr hb8; have hf := GW.out.free; have c4 := GW.out.2.1.ty HO.out)
            | (go_at_call 89; refine (goodType_any E.ty _).mono ?_; rintro x w9 ⟨rfl, rfl⟩; rw [HY.out]))
          obtain ⟨q1, q2⟩ := GW.out.done zeroE zeroE_ok
          exact bodyPost_ret (results_cell2 Tryz.results37 rfl (ld_some q1 (ldr_eth _ _ _))) rfl ⟨by rw [HV.out]; rfl, q2⟩
        | true =>
          have HY := zh hy
          have hsE := Str_size E.bd
          have hle := HL.out
          have HD : Hid (R = (if 1500 < E.bd.length then (zeroE, 6) else (E, 0))) := zh (by rw [HRR.out]; simp [coreV, hy, hg, HB.out])
          clear hg hy
          generalize hLn : E.bd.length = Ln at hsE hle HD
          by_cases hlt : 1500 < Ln
          · have HV := zh (show R = (zeroE, 6) by rw [HD.out, if_pos hlt])
            go_wp2_with (first
              | (go_at_call 87; (refine (bad_any _ _ _ _ _ GT.out.1.1).mono ?_); rintro x w6 ⟨rfl, rfl⟩)
              | (go_at_call 85; refine (bits_any 0 HWORD.out 12 1 _).mono ?_; rintro x w7 ⟨rfl, d, rfl⟩; rw [HB.out]; have GU := zh (GT.out.drewN d); clear hr hf; have hr := GU.out.2.1.row HO.out)
              | (go_at_call 88; refine (goodTag_any E HO.out _).mono ?_; rintro x w8 ⟨rfl, hb8⟩; rw [HG.out]; have GW := zh (GU.out.below hb8); clear hr hb8; have hf := GW.out.free; have c4 := GW.out.2.1.ty HO.out)
              | (go_at_call 89; refine (goodType_any E.ty _).mono ?_; rintro x w9 ⟨rfl, rfl⟩; rw [HY.out]; have c5 := GW.out.2.1.bd HO.out))
            obtain ⟨q1, q2⟩ := GW.out.done zeroE zeroE_ok
            exact bodyPost_ret (results_cell2 Tryz.results37 rfl (ld_some q1 (ldr_eth _ _ _))) rfl ⟨by rw [HV.out]; rfl, q2⟩
          · have HV := zh (show R = (E, 0) by rw [HD.out, if_neg hlt])
            go_wp2_with (first
              | (go_at_call 87; (refine (bad_any _ _ _ _ _ GT.out.1.1).mono ?_); rintro x w6 ⟨rfl, rfl⟩)
              | (go_at_call 85; refine (bits_any 0 HWORD.out 12 1 _).mono ?_; rintro x w7 ⟨rfl, d, rfl⟩; rw [HB.out]; have GU := zh (GT.out.drewN d); clear hr hf; have hr := GU.out.2.1.row HO.out)
              | (go_at_call 88; refine (goodTag_any E HO.out _).mono ?_; rintro x w8 ⟨rfl, hb8⟩; rw [HG.out]; have GW := zh (GU.out.below hb8); clear hr hb8; have hf := GW.out.free; have c4 := GW.out.2.1.ty HO.out)
              | (go_at_call 89; refine (goodType_any E.ty _).mono ?_; rintro x w9 ⟨rfl, rfl⟩; rw [HY.out]; have c5 := GW.out.2.1.bd HO.out; have hr := GW.out.2.1.row HO.out))
            obtain ⟨q1, q2⟩ := GW.out.done E HO.out
            exact bodyPost_ret (results_cell2 Tryz.results37 rfl (ld_some q1 (ldr_eth _ _ _))) rfl ⟨by rw [HV.out]; rfl, q2⟩
    · have HV := zh (show R = (zeroE, 5) by rw [HRR.out]; simp [coreV, hb])
      have hb1 : ((bitsN 0 12 1 : Int) != 0) = true := by simpa using hb
      have HB := zh hb; clear hb
      go_wp2_with (first
        | (go_at_call 87; (refine (bad_any _ _ _ _ _ GT.out.1.1).mono ?_); rintro x w6 ⟨rfl, rfl⟩)
        | (go_at_call 85; refine (bits_any 0 HWORD.out 12 1 _).mono ?_; rintro x w7 ⟨rfl, d, rfl⟩; have GU := zh (GT.out.drewN d); clear hr hf; have hf := GU.out.free))
      obtain ⟨q1, q2⟩ := GU.out.done zeroE zeroE_ok
      exact bodyPost_ret (results_cell2 Tryz.results37 rfl (ld_some q1 (ldr_eth _ _ _))) rfl ⟨by rw [HV.out]; rfl, q2⟩
end Go.Proofs.YtlbdehegknehiaaGreat

/- A part of the proof. -/
namespace Go.Proofs.YtlbdehegknehiaaGreat
set_option maxRecDepth 100000
set_option maxHeartbeats 2000000
open Go.RowKit
set_option linter.unusedVariables false
attribute [local go_sem ↓] bld_eth ld_eth st_eth ld_mac st_mac
attribute [local go_sem] ldr_eth str_eth ldr_mac str_mac
theorem read_tg (w : World) (s l1 l2 l3 l4 l5 t1 t2 : List UInt8) (k1 k2 k3 k4 k5 n3 n4 n5 v p : Nat) (b1 b2 b3 b4 b5 : Bool) (hs : s.length ≤ 1000000)
    (H1 : Hid (∀ W, RdAt W (w.heap.size + 1) s 0 false → Calls Tryz.prog 83 #[.pointer (some ⟨w.heap.size + 1, 0, none⟩)] W fun x w' => x = .returned (.agg (B8 t1).toArray) ∧ RdAt w' (w.heap.size + 1) l1 k1 b1 ∧ W.grownBy w' (some (w.heap.size + 1))))
    (H2 : Hid (∀ W, RdAt W (w.heap.size + 1) l1 k1 b1 → Calls Tryz.prog 83 #[.pointer (some ⟨w.heap.size + 1, 0, none⟩)] W fun x w' => x = .returned (.agg (B8 t2).toArray) ∧ RdAt w' (w.heap.size + 1) l2 k2 b2 ∧ W.grownBy w' (some (w.heap.size + 1))))
    (H3 : Hid (∀ W, RdAt W (w.heap.size + 1) l2 k2 b2 → Calls Tryz.prog 84 #[.pointer (some ⟨w.heap.size + 1, 0, none⟩), .int .i64 2] W fun x w' => x = .returned (.int .u64 n3) ∧ RdAt w' (w.heap.size + 1) l3 k3 b3 ∧ W.grownBy w' (some (w.heap.size + 1))))
    (H4 : Hid (∀ W, RdAt W (w.heap.size + 1) l3 k3 b3 → Calls Tryz.prog 84 #[.pointer (some ⟨w.heap.size + 1, 0, none⟩), .int .i64 2] W fun x w' => x = .returned (.int .u64 n4) ∧ RdAt w' (w.heap.size + 1) l4 k4 b4 ∧ W.grownBy w' (some (w.heap.size + 1))))
    (H5 : Hid (∀ W, RdAt W (w.heap.size + 1) l4 k4 b4 → Calls Tryz.prog 84 #[.pointer (some ⟨w.heap.size + 1, 0, none⟩), .int .i64 2] W fun x w' => x = .returned (.int .u64 n5) ∧ RdAt w' (w.heap.size + 1) l5 k5 b5 ∧ W.grownBy w' (some (w.heap.size + 1))))
    (hn3 : n3 < 65536) (hne : n3 = 33024) (hn4 : n4 < 65536) (hn5 : n5 < 65536) (hv : v = bitsN n4 0 12) (hp : p = bitsN n4 13 3) (hv2 : v < 65536) (hp2 : p < 65536) (ht1 : t1.length = 6) (ht2 : t2.length = 6) (hl3 : l5.length ≤ 1000000)
    (E : Eth) (hE : E = ⟨t1, t2, true, v, p, n5, l5⟩) (R : Eth × Int) (hR : R = coreV b5 n4 E) :
    Calls Tryz.prog 37 #[.string (Str s)] w fun x w' => x = .returned (.tuple #[.agg (ethC R.1).toArray, .int .i64 R.2]) ∧ Below w.heap.size w w' := by
  have hnk : ((n3 : Int) == 33024) = true := by simp; omega
  have hcv : IntKind.i64.wrap (n3 : Int) = (n3 : Int) := by simp only [IntKind.wrap_i64]; omega
  have hcv5 : IntKind.i64.wrap (n5 : Int) = (n5 : Int) := by simp only [IntKind.wrap_i64]; omega
  have hcvv : IntKind.i64.wrap (v : Int) = (v : Int) := by simp only [IntKind.wrap_i64]; omega
  have hcvp : IntKind.i64.wrap (p : Int) = (p : Int) := by simp only [IntKind.wrap_i64]; omega
  have HWORD : Hid (n4 ≤ 18446744073709551615) := zh (by omega)
  have HBV : Hid (∀ W, Calls Tryz.prog 85 #[.int .u64 n4, .int .i64 0, .int .i64 12] W fun x w' => x = .returned (.int .u64 v) ∧ ∃ k, w' = W.drewN k) := zh fun W => by rw [hv]; exact bits_any n4 HWORD.out 0 12 W
  have HBP : Hid (∀ W, Calls Tryz.prog 85 #[.int .u64 n4, .int .i64 13, .int .i64 3] W fun x w' => x = .returned (.int .u64 p) ∧ ∃ k, w' = W.drewN k) := zh fun W => by rw [hp]; exact bits_any n4 HWORD.out 13 3 W
  have HOT := zh (show ∀ (tg : Bool) (v p k : Int) (b : List UInt8), (⟨t1, t2, tg, v, p, k, b⟩ : Eth).ok from fun _ _ _ _ _ => ⟨ht1, ht2⟩)
  have hb0 := bld_three t1 t2 (n3 : Int) ht1 ht2
  have hbz := bld_zero
  have ho0 : (⟨t1, t2, false, 0, 0, n3, []⟩ : Eth).ok := ⟨ht1, ht2⟩
  have hoE : E.ok := by rw [hE]; exact ⟨ht1, ht2⟩
  have hfok0 := fok_eth ho0
  have hfokz := fok_eth zeroE_ok
  have hfokE := fok_eth hoE
  have h0 := R0.start w s
  rw [zeroE_cells] at h0
  have H0 := zh h0
  have HO0 := zh ho0
  have HE := zh hE
  have HRR := zh hR
  have HO := zh hoE
  have hsz := Str_size l5
  have HL := zh (show E.bd.length ≤ 1000000 by rw [hE]; exact hl3)
  clear hR ht1 ht2 hn3 hne hs hE hoE ho0 hn4 hn5 hv hp hv2 hp2
  go_enter Tryz.func37, Tryz.ntmps37
  go_upto_region 2 with (go_at_call 82; refine (new_any (Str s) _).mono ?_; rintro x w1 ⟨rfl, rfl⟩)
  generalize (w.alloc (.cells zze 54)).alloc (.cells #[.string (Str s), .int .i64 0, .bool false] 164) = W at H0 ⊢
  have hr0 := H0.out.1
  go_upto_region 4 with (first
    | (go_at_call 83; (with_reducible refine (H1.out _ hr0).mono ?_); rintro x w1 ⟨rfl, hr1, hg1⟩; have G1 := zh (H0.out.grown hr1 hg1); clear hg1)
    | (go_at_call 83; (with_reducible refine (H2.out _ hr1).mono ?_); rintro x w2 ⟨rfl, hr2, hg2⟩; have G2 := zh (G1.out.grown hr2 hg2); clear hg2)
    | (go_at_call 84; (with_reducible refine (H3.out _ hr2).mono ?_); rintro x w3 ⟨rfl, hr3, hg3⟩; have G3 := zh (G2.out.grown hr3 hg3); have hf3 := free_made w3 zze 54 17 (by simp); have hs3 := RSe.made G3.out _ HO0.out; rw [zeroE_cells] at hs3; have GS := zh hs3; clear hg3 hs3))
  generalize aggW (w3.alloc (.cells zze 54)) w3.heap.size _ = W4 at GS ⊢
  clear hf3
  generalize w3.heap.size = m at GS ⊢
  have c4 := GS.out.2.1.ty HO0.out
  simp only at c4
  go_upto_region 5 with (fail)
  clear c4
  have c1 := GS.out.2.1.tg HO0.out
  have f1 := EthAt.frz GS.out.2.1 12
  have GA := zh (RSe.set (e' := ⟨t1, t2, true, 0, 0, n3, []⟩) GS.out 0 (.bool true) rfl (HOT.out _ _ _ _ _))
  go_upto_region 6 with (fail)
  generalize World.setCell _ _ _ = W5 at GA ⊢
  clear c1 f1
  have hr3' := GA.out.1.1
  go_upto_region 7 with (first
    | (go_at_call 84; (with_reducible refine (H4.out _ hr3').mono ?_); rintro x w6 ⟨rfl, hr4, hg4⟩; have GB := zh (GA.out.grown hr4 hg4); clear hg4)
    | (go_at_call 84; (with_reducible refine (H5.out _ hr4).mono ?_); rintro x w7 ⟨rfl, hr5, hg5⟩; have GC := zh (GB.out.grown hr5 hg5); have c4 := GC.out.2.1.ty (HOT.out _ _ _ _ _); have f4 := EthAt.frz GC.out.2.1 15; have GD := zh (RSe.set (e' := ⟨t1, t2, true, 0, 0, n5, []⟩) GC.out 3 (.int .i64 n5) rfl (HOT.out _ _ _ _ _)); clear hg5))
  generalize World.setCell _ _ _ = W8 at GD ⊢
  clear c4 f4
  go_upto_region 8 with (go_at_call 85; refine (HBV.out _).mono ?_; rintro x w9 ⟨rfl, dv, rfl⟩; have GE := zh (GD.out.drewN dv); have c2 := GE.out.2.1.vl (HOT.out _ _ _ _ _); have f2 := EthAt.frz GE.out.2.1 13; have GF := zh (RSe.set (e' := ⟨t1, t2, true, v, 0, n5, []⟩) GE.out 1 (.int .i64 v) rfl (HOT.out _ _ _ _ _)))
  generalize World.setCell _ _ _ = W10 at GF ⊢
  clear c2 f2
  go_upto_region 9 with (go_at_call 85; refine (HBP.out _).mono ?_; rintro x w11 ⟨rfl, dp, rfl⟩; have GG := zh (GF.out.drewN dp); have c3 := GG.out.2.1.pr (HOT.out _ _ _ _ _); have f3 := EthAt.frz GG.out.2.1 14; have GH := zh (RSe.set (e' := ⟨t1, t2, true, v, p, n5, []⟩) GG.out 2 (.int .i64 p) rfl (HOT.out _ _ _ _ _)))
  generalize World.setCell _ _ _ = W12 at GH ⊢
  clear c3 f3
  have c5 := GH.out.2.1.bd (HOT.out _ _ _ _ _)
  have f5 := EthAt.frz GH.out.2.1 16
  have GT := zh (RSe.set (e' := E) GH.out 4 (.string (Str l5)) (by rw [HE.out]; rfl) HO.out)
  go_upto_region 10 with (go_at_call 86; (refine (rest_any _ _ _ _ _ GH.out.1.1).mono ?_); rintro x w5 ⟨rfl, rfl⟩)
  generalize World.setCell _ _ _ = W13 at GT ⊢
  clear c5 f5
  have hf := GT.out.free
  cases b5 with
  | true =>
    have HV := zh (show R = (zeroE, 3) by rw [HRR.out]; rfl)
    go_wp2_with (go_at_call 87; (refine (bad_any _ _ _ _ _ GT.out.1.1).mono ?_); rintro x w6 ⟨rfl, rfl⟩)
    obtain ⟨q1, q2⟩ := GT.out.done zeroE zeroE_ok
    exact bodyPost_ret (results_cell2 Tryz.results37 rfl (ld_some q1 (ldr_eth _ _ _))) rfl ⟨by rw [HV.out]; rfl, q2⟩
  | false =>
    have hr := GT.out.2.1.row HO.out
    by_cases hb : bitsN n4 12 1 = 0
    · have hb1 : ((0 : Int) != 0) = false := rfl
      have HB := zh hb; clear hb
      cases hg : goodTgV E.tg E.vl E.pr with
      | false =>
        have HV := zh (show R = (zeroE, 5) by rw [HRR.out]; simp [coreV, hg])
        have HG := zh hg; clear hg
        go_wp2_with (first
          | (go_at_call 87; (refine (bad_any _ _ _ _ _ GT.out.1.1).mono ?_); rintro x w6 ⟨rfl, rfl⟩)
          | (go_at_call 85; refine (bits_any n4 HWORD.out 12 1 _).mono ?_; rintro x w7 ⟨rfl, d, rfl⟩; rw [HB.out]; have GU := zh (GT.out.drewN d); clear hr hf; have hr := GU.out.2.1.row HO.out)
          | (go_at_call 88; refine (goodTag_any E HO.out _).mono ?_; rintro x w8 ⟨rfl, hb8⟩; rw [HG.out]; have GW := zh (GU.out.below hb8); clear hr hb8; have hf := GW.out.free))
        obtain ⟨q1, q2⟩ := GW.out.done zeroE zeroE_ok
        exact bodyPost_ret (results_cell2 Tryz.results37 rfl (ld_some q1 (ldr_eth _ _ _))) rfl ⟨by rw [HV.out]; rfl, q2⟩
      | true =>
        have HG := zh hg
        cases hy : goodTyV E.ty with
        | false =>
          have HV := zh (show R = (zeroE, 5) by rw [HRR.out]; simp [coreV, hy])
          have HY := zh hy; clear hg hy
          go_wp2_with (first
            | (go_at_call 87; (refine (bad_any _ _ _ _ _ GT.out.1.1).mono ?_); rintro x w6 ⟨rfl, rfl⟩)
            | (go_at_call 85; refine (bits_any n4 HWORD.out 12 1 _).mono ?_; rintro x w7 ⟨rfl, d, rfl⟩; rw [HB.out]; have GU := zh (GT.out.drewN d); clear hr hf; have hr := GU.out.2.1.row HO.out)
            | (go_at_call 88; refine (goodTag_any E HO.out _).mono ?_; rintro x w8 ⟨rfl, hb8⟩; rw [HG.out]; have GW := zh (GU.out.below hb8); clear hr hb8; have hf := GW.out.free; have c4 := GW.out.2.1.ty HO.out)
            | (go_at_call 89; refine (goodType_any E.ty _).mono ?_; rintro x w9 ⟨rfl, rfl⟩; rw [HY.out]))
          obtain ⟨q1, q2⟩ := GW.out.done zeroE zeroE_ok
          exact bodyPost_ret (results_cell2 Tryz.results37 rfl (ld_some q1 (ldr_eth _ _ _))) rfl ⟨by rw [HV.out]; rfl, q2⟩
        | true =>
          have HY := zh hy
          have hsE := Str_size E.bd
          have hle := HL.out
          have HD : Hid (R = (if 1500 < E.bd.length then (zeroE, 6) else (E, 0))) := zh (by rw [HRR.out]; simp [coreV, hy, hg, HB.out])
          clear hg hy
          generalize hLn : E.bd.length = Ln at hsE hle HD
          by_cases hlt : 1500 < Ln
          · have HV := zh (show R = (zeroE, 6) by rw [HD.out, if_pos hlt])
            go_wp2_with (first
              | (go_at_call 87; (refine (bad_any _ _ _ _ _ GT.out.1.1).mono ?_); rintro x w6 ⟨rfl, rfl⟩)
              | (go_at_call 85; refine (bits_any n4 HWORD.out 12 1 _).mono ?_; rintro x w7 ⟨rfl, d, rfl⟩; rw [HB.out]; have GU := zh (GT.out.drewN d); clear hr hf; have hr := GU.out.2.1.row HO.out)
              | (go_at_call 88; refine (goodTag_any E HO.out _).mono ?_; rintro x w8 ⟨rfl, hb8⟩; rw [HG.out]; have GW := zh (GU.out.below hb8); clear hr hb8; have hf := GW.out.free; have c4 := GW.out.2.1.ty HO.out)
              | (go_at_call 89; refine (goodType_any E.ty _).mono ?_; rintro x w9 ⟨rfl, rfl⟩; rw [HY.out]; have c5 := GW.out.2.1.bd HO.out))
            obtain ⟨q1, q2⟩ := GW.out.done zeroE zeroE_ok
            exact bodyPost_ret (results_cell2 Tryz.results37 rfl (ld_some q1 (ldr_eth _ _ _))) rfl ⟨by rw [HV.out]; rfl, q2⟩
          · have HV := zh (show R = (E, 0) by rw [HD.out, if_neg hlt])
            go_wp2_with (first
              | (go_at_call 87; (refine (bad_any _ _ _ _ _ GT.out.1.1).mono ?_); rintro x w6 ⟨rfl, rfl⟩)
              | (go_at_call 85; refine (bits_any n4 HWORD.out 12 1 _).mono ?_; rintro x w7 ⟨rfl, d, rfl⟩; rw [HB.out]; have GU := zh (GT.out.drewN d); clear hr hf; have hr := GU.out.2.1.row HO.out)
              | (go_at_call 88; refine (goodTag_any E HO.out _).mono ?_; rintro x w8 ⟨rfl, hb8⟩; rw [HG.out]; have GW := zh (GU.out.below hb8); clear hr hb8; have hf := GW.out.free; have c4 := GW.out.2.1.ty HO.out)
              | (go_at_call 89; refine (goodType_any E.ty _).mono ?_; rintro x w9 ⟨rfl, rfl⟩; rw [HY.out]; have c5 := GW.out.2.1.bd HO.out; have hr := GW.out.2.1.row HO.out))
            obtain ⟨q1, q2⟩ := GW.out.done E HO.out
            exact bodyPost_ret (results_cell2 Tryz.results37 rfl (ld_some q1 (ldr_eth _ _ _))) rfl ⟨by rw [HV.out]; rfl, q2⟩
    · have HV := zh (show R = (zeroE, 5) by rw [HRR.out]; simp [coreV, hb])
      have hb1 : ((bitsN n4 12 1 : Int) != 0) = true := by simpa using hb
      have HB := zh hb; clear hb
      go_wp2_with (first
        | (go_at_call 87; (refine (bad_any _ _ _ _ _ GT.out.1.1).mono ?_); rintro x w6 ⟨rfl, rfl⟩)
        | (go_at_call 85; refine (bits_any n4 HWORD.out 12 1 _).mono ?_; rintro x w7 ⟨rfl, d, rfl⟩; have GU := zh (GT.out.drewN d); clear hr hf; have hf := GU.out.free))
      obtain ⟨q1, q2⟩ := GU.out.done zeroE zeroE_ok
      exact bodyPost_ret (results_cell2 Tryz.results37 rfl (ld_some q1 (ldr_eth _ _ _))) rfl ⟨by rw [HV.out]; rfl, q2⟩
end Go.Proofs.YtlbdehegknehiaaGreat

