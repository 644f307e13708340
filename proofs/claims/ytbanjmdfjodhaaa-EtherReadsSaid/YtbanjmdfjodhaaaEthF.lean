/-
  The contract of ether.Read of a frame with a tag.
-/
import Derived.Test.YtbanjmdfjodhaaaEthE
namespace Go.Proofs.Ytbanjmdfjodhaaa
open Go.RowKit
set_option linter.unusedVariables false
attribute [local go_sem ↓] bld_eth ld_eth st_eth ld_mac st_mac
attribute [local go_sem] ldr_eth str_eth ldr_mac str_mac


set_option maxRecDepth 100000 in
set_option maxHeartbeats 2000000 in
theorem read_tg (w : World) (s l1 l2 l3 l4 l5 t1 t2 : List UInt8) (k1 k2 k3 k4 k5 n3 n4 n5 v p : Nat) (b1 b2 b3 b4 b5 : Bool) (hs : s.length ≤ 1000000)
    (H1 : Hid (∀ W, RdAt W (w.heap.size + 1) s 0 false → Calls Try.prog 22 #[.pointer (some ⟨w.heap.size + 1, 0, none⟩)] W fun x w' => x = .returned (.agg (B8 t1).toArray) ∧ RdAt w' (w.heap.size + 1) l1 k1 b1 ∧ W.grownBy w' (some (w.heap.size + 1))))
    (H2 : Hid (∀ W, RdAt W (w.heap.size + 1) l1 k1 b1 → Calls Try.prog 22 #[.pointer (some ⟨w.heap.size + 1, 0, none⟩)] W fun x w' => x = .returned (.agg (B8 t2).toArray) ∧ RdAt w' (w.heap.size + 1) l2 k2 b2 ∧ W.grownBy w' (some (w.heap.size + 1))))
    (H3 : Hid (∀ W, RdAt W (w.heap.size + 1) l2 k2 b2 → Calls Try.prog 23 #[.pointer (some ⟨w.heap.size + 1, 0, none⟩), .int .i64 2] W fun x w' => x = .returned (.int .u64 n3) ∧ RdAt w' (w.heap.size + 1) l3 k3 b3 ∧ W.grownBy w' (some (w.heap.size + 1))))
    (H4 : Hid (∀ W, RdAt W (w.heap.size + 1) l3 k3 b3 → Calls Try.prog 23 #[.pointer (some ⟨w.heap.size + 1, 0, none⟩), .int .i64 2] W fun x w' => x = .returned (.int .u64 n4) ∧ RdAt w' (w.heap.size + 1) l4 k4 b4 ∧ W.grownBy w' (some (w.heap.size + 1))))
    (H5 : Hid (∀ W, RdAt W (w.heap.size + 1) l4 k4 b4 → Calls Try.prog 23 #[.pointer (some ⟨w.heap.size + 1, 0, none⟩), .int .i64 2] W fun x w' => x = .returned (.int .u64 n5) ∧ RdAt w' (w.heap.size + 1) l5 k5 b5 ∧ W.grownBy w' (some (w.heap.size + 1))))
    (hn3 : n3 < 65536) (hne : n3 = 33024) (hn4 : n4 < 65536) (hn5 : n5 < 65536) (hv : v = bitsN n4 0 12) (hp : p = bitsN n4 13 3) (hv2 : v < 65536) (hp2 : p < 65536) (ht1 : t1.length = 6) (ht2 : t2.length = 6) (hl3 : l5.length ≤ 1000000)
    (E : Eth) (hE : E = ⟨t1, t2, true, v, p, n5, l5⟩) (R : Eth × Int) (hR : R = coreV b5 n4 E) :
    Calls Try.prog 12 #[.string (Str s)] w fun x w' => x = .returned (.tuple #[.agg (ethC R.1).toArray, .int .i64 R.2]) ∧ Below w.heap.size w w' := by
  have hnk : ((n3 : Int) == 33024) = true := by simp; omega
  have hcv : IntKind.i64.wrap (n3 : Int) = (n3 : Int) := by simp only [IntKind.wrap_i64]; omega
  have hcv5 : IntKind.i64.wrap (n5 : Int) = (n5 : Int) := by simp only [IntKind.wrap_i64]; omega
  have hcvv : IntKind.i64.wrap (v : Int) = (v : Int) := by simp only [IntKind.wrap_i64]; omega
  have hcvp : IntKind.i64.wrap (p : Int) = (p : Int) := by simp only [IntKind.wrap_i64]; omega
  have HWORD : Hid (n4 ≤ 18446744073709551615) := Lib.hid (by omega)
  have HBV : Hid (∀ W, Calls Try.prog 24 #[.int .u64 n4, .int .i64 0, .int .i64 12] W fun x w' => x = .returned (.int .u64 v) ∧ ∃ k, w' = W.drewN k) := Lib.hid fun W => by rw [hv]; exact bits_any n4 HWORD.out 0 12 W
  have HBP : Hid (∀ W, Calls Try.prog 24 #[.int .u64 n4, .int .i64 13, .int .i64 3] W fun x w' => x = .returned (.int .u64 p) ∧ ∃ k, w' = W.drewN k) := Lib.hid fun W => by rw [hp]; exact bits_any n4 HWORD.out 13 3 W
  have HOT := Lib.hid (show ∀ (tg : Bool) (v p k : Int) (b : List UInt8), (⟨t1, t2, tg, v, p, k, b⟩ : Eth).ok from fun _ _ _ _ _ => ⟨ht1, ht2⟩)
  have hb0 := bld_three t1 t2 (n3 : Int) ht1 ht2
  have hbz := bld_zero
  have ho0 : (⟨t1, t2, false, 0, 0, n3, []⟩ : Eth).ok := ⟨ht1, ht2⟩
  have hoE : E.ok := by rw [hE]; exact ⟨ht1, ht2⟩
  have hfok0 := fok_eth ho0
  have hfokz := fok_eth zeroE_ok
  have hfokE := fok_eth hoE
  have h0 := R0.start w s
  rw [zeroE_cells] at h0
  have H0 := Lib.hid h0
  have HO0 := Lib.hid ho0
  have HE := Lib.hid hE
  have HRR := Lib.hid hR
  have HO := Lib.hid hoE
  have hsz := Str_size l5
  have HL := Lib.hid (show E.bd.length ≤ 1000000 by rw [hE]; exact hl3)
  clear hR ht1 ht2 hn3 hne hs hE hoE ho0 hn4 hn5 hv hp hv2 hp2
  go_enter Try.func12, Try.ntmps12
  go_upto_region 2 with (go_at_call 21; refine (new_any (Str s) _).mono ?_; rintro x w1 ⟨rfl, rfl⟩)
  generalize (w.alloc (.cells #[.int .u8 0, .int .u8 0, .int .u8 0, .int .u8 0, .int .u8 0, .int .u8 0, .int .u8 0, .int .u8 0, .int .u8 0, .int .u8 0, .int .u8 0, .int .u8 0, .bool false, .int .i64 0, .int .i64 0, .int .i64 0, .string ⟨#[]⟩] 25)).alloc (.cells #[.string (Str s), .int .i64 0, .bool false] 56) = W at H0 ⊢
  have hr0 := H0.out.1
  go_upto_region 4 with (first
    | (go_at_call 22; (with_reducible refine (H1.out _ hr0).mono ?_); rintro x w1 ⟨rfl, hr1, hg1⟩; have G1 := Lib.hid (H0.out.grown hr1 hg1); clear hg1)
    | (go_at_call 22; (with_reducible refine (H2.out _ hr1).mono ?_); rintro x w2 ⟨rfl, hr2, hg2⟩; have G2 := Lib.hid (G1.out.grown hr2 hg2); clear hg2)
    | (go_at_call 23; (with_reducible refine (H3.out _ hr2).mono ?_); rintro x w3 ⟨rfl, hr3, hg3⟩; have G3 := Lib.hid (G2.out.grown hr3 hg3); have hf3 := free_made w3 #[.int .u8 0, .int .u8 0, .int .u8 0, .int .u8 0, .int .u8 0, .int .u8 0, .int .u8 0, .int .u8 0, .int .u8 0, .int .u8 0, .int .u8 0, .int .u8 0, .bool false, .int .i64 0, .int .i64 0, .int .i64 0, .string ⟨#[]⟩] 25 17 (by simp); have hs3 := RS.made G3.out _ HO0.out; rw [zeroE_cells] at hs3; have GS := Lib.hid hs3; clear hg3 hs3))
  generalize aggW (w3.alloc (.cells #[.int .u8 0, .int .u8 0, .int .u8 0, .int .u8 0, .int .u8 0, .int .u8 0, .int .u8 0, .int .u8 0, .int .u8 0, .int .u8 0, .int .u8 0, .int .u8 0, .bool false, .int .i64 0, .int .i64 0, .int .i64 0, .string ⟨#[]⟩] 25)) w3.heap.size _ = W4 at GS ⊢
  clear hf3
  generalize w3.heap.size = m at GS ⊢
  have c4 := GS.out.2.1.ty HO0.out
  simp only at c4
  go_upto_region 5 with (fail)
  clear c4
  have c1 := GS.out.2.1.tg HO0.out
  have f1 := EthAt.frz GS.out.2.1 12
  have GA := Lib.hid (RS.set (e' := ⟨t1, t2, true, 0, 0, n3, []⟩) GS.out 0 (.bool true) rfl (HOT.out _ _ _ _ _))
  go_upto_region 6 with (fail)
  generalize World.setCell _ _ _ = W5 at GA ⊢
  clear c1 f1
  have hr3' := GA.out.1.1
  go_upto_region 7 with (first
    | (go_at_call 23; (with_reducible refine (H4.out _ hr3').mono ?_); rintro x w6 ⟨rfl, hr4, hg4⟩; have GB := Lib.hid (GA.out.grown hr4 hg4); clear hg4)
    | (go_at_call 23; (with_reducible refine (H5.out _ hr4).mono ?_); rintro x w7 ⟨rfl, hr5, hg5⟩; have GC := Lib.hid (GB.out.grown hr5 hg5); have c4 := GC.out.2.1.ty (HOT.out _ _ _ _ _); have f4 := EthAt.frz GC.out.2.1 15; have GD := Lib.hid (RS.set (e' := ⟨t1, t2, true, 0, 0, n5, []⟩) GC.out 3 (.int .i64 n5) rfl (HOT.out _ _ _ _ _)); clear hg5))
  generalize World.setCell _ _ _ = W8 at GD ⊢
  clear c4 f4
  go_upto_region 8 with (go_at_call 24; refine (HBV.out _).mono ?_; rintro x w9 ⟨rfl, dv, rfl⟩; have GE := Lib.hid (GD.out.drewN dv); have c2 := GE.out.2.1.vl (HOT.out _ _ _ _ _); have f2 := EthAt.frz GE.out.2.1 13; have GF := Lib.hid (RS.set (e' := ⟨t1, t2, true, v, 0, n5, []⟩) GE.out 1 (.int .i64 v) rfl (HOT.out _ _ _ _ _)))
  generalize World.setCell _ _ _ = W10 at GF ⊢
  clear c2 f2
  go_upto_region 9 with (go_at_call 24; refine (HBP.out _).mono ?_; rintro x w11 ⟨rfl, dp, rfl⟩; have GG := Lib.hid (GF.out.drewN dp); have c3 := GG.out.2.1.pr (HOT.out _ _ _ _ _); have f3 := EthAt.frz GG.out.2.1 14; have GH := Lib.hid (RS.set (e' := ⟨t1, t2, true, v, p, n5, []⟩) GG.out 2 (.int .i64 p) rfl (HOT.out _ _ _ _ _)))
  generalize World.setCell _ _ _ = W12 at GH ⊢
  clear c3 f3
  have c5 := GH.out.2.1.bd (HOT.out _ _ _ _ _)
  have f5 := EthAt.frz GH.out.2.1 16
  have GT := Lib.hid (RS.set (e' := E) GH.out 4 (.string (Str l5)) (by rw [HE.out]; rfl) HO.out)
  go_upto_region 10 with (go_at_call 25; (refine (rest_any _ _ _ _ _ GH.out.1.1).mono ?_); rintro x w5 ⟨rfl, rfl⟩)
  generalize World.setCell _ _ _ = W13 at GT ⊢
  clear c5 f5
  have hf := GT.out.free
  cases b5 with
  | true =>
    have HV := Lib.hid (show R = (zeroE, 3) by rw [HRR.out]; rfl)
    go_wp2_with (go_at_call 26; (refine (bad_any _ _ _ _ _ GT.out.1.1).mono ?_); rintro x w6 ⟨rfl, rfl⟩)
    obtain ⟨q1, q2⟩ := GT.out.done zeroE zeroE_ok
    exact bodyPost_ret (results_cell2 Try.results12 rfl (ld_some q1 (ldr_eth _ _ _))) rfl ⟨by rw [HV.out]; rfl, q2⟩
  | false =>
    have hr := GT.out.2.1.row HO.out
    by_cases hb : bitsN n4 12 1 = 0
    · have hb1 : ((0 : Int) != 0) = false := rfl
      have HB := Lib.hid hb; clear hb
      cases hg : goodTgV E.tg E.vl E.pr with
      | false =>
        have HV := Lib.hid (show R = (zeroE, 5) by rw [HRR.out]; simp [coreV, hg])
        have HG := Lib.hid hg; clear hg
        go_wp2_with (first
          | (go_at_call 26; (refine (bad_any _ _ _ _ _ GT.out.1.1).mono ?_); rintro x w6 ⟨rfl, rfl⟩)
          | (go_at_call 24; refine (bits_any n4 HWORD.out 12 1 _).mono ?_; rintro x w7 ⟨rfl, d, rfl⟩; rw [HB.out]; have GU := Lib.hid (GT.out.drewN d); clear hr hf; have hr := GU.out.2.1.row HO.out)
          | (go_at_call 20; refine (goodTag_any E HO.out _).mono ?_; rintro x w8 ⟨rfl, hb8⟩; rw [HG.out]; have GW := Lib.hid (GU.out.below hb8); clear hr hb8; have hf := GW.out.free))
        obtain ⟨q1, q2⟩ := GW.out.done zeroE zeroE_ok
        exact bodyPost_ret (results_cell2 Try.results12 rfl (ld_some q1 (ldr_eth _ _ _))) rfl ⟨by rw [HV.out]; rfl, q2⟩
      | true =>
        have HG := Lib.hid hg
        cases hy : goodTyV E.ty with
        | false =>
          have HV := Lib.hid (show R = (zeroE, 5) by rw [HRR.out]; simp [coreV, hy])
          have HY := Lib.hid hy; clear hg hy
          go_wp2_with (first
            | (go_at_call 26; (refine (bad_any _ _ _ _ _ GT.out.1.1).mono ?_); rintro x w6 ⟨rfl, rfl⟩)
            | (go_at_call 24; refine (bits_any n4 HWORD.out 12 1 _).mono ?_; rintro x w7 ⟨rfl, d, rfl⟩; rw [HB.out]; have GU := Lib.hid (GT.out.drewN d); clear hr hf; have hr := GU.out.2.1.row HO.out)
            | (go_at_call 20; refine (goodTag_any E HO.out _).mono ?_; rintro x w8 ⟨rfl, hb8⟩; rw [HG.out]; have GW := Lib.hid (GU.out.below hb8); clear hr hb8; have hf := GW.out.free; have c4 := GW.out.2.1.ty HO.out)
            | (go_at_call 19; refine (goodType_any E.ty _).mono ?_; rintro x w9 ⟨rfl, rfl⟩; rw [HY.out]))
          obtain ⟨q1, q2⟩ := GW.out.done zeroE zeroE_ok
          exact bodyPost_ret (results_cell2 Try.results12 rfl (ld_some q1 (ldr_eth _ _ _))) rfl ⟨by rw [HV.out]; rfl, q2⟩
        | true =>
          have HY := Lib.hid hy
          have hsE := Str_size E.bd
          have hle := HL.out
          have HD : Hid (R = (if 1500 < E.bd.length then (zeroE, 6) else (E, 0))) := Lib.hid (by rw [HRR.out]; simp [coreV, hy, hg, HB.out])
          clear hg hy
          generalize hLn : E.bd.length = Ln at hsE hle HD
          by_cases hlt : 1500 < Ln
          · have HV := Lib.hid (show R = (zeroE, 6) by rw [HD.out, if_pos hlt])
            go_wp2_with (first
              | (go_at_call 26; (refine (bad_any _ _ _ _ _ GT.out.1.1).mono ?_); rintro x w6 ⟨rfl, rfl⟩)
              | (go_at_call 24; refine (bits_any n4 HWORD.out 12 1 _).mono ?_; rintro x w7 ⟨rfl, d, rfl⟩; rw [HB.out]; have GU := Lib.hid (GT.out.drewN d); clear hr hf; have hr := GU.out.2.1.row HO.out)
              | (go_at_call 20; refine (goodTag_any E HO.out _).mono ?_; rintro x w8 ⟨rfl, hb8⟩; rw [HG.out]; have GW := Lib.hid (GU.out.below hb8); clear hr hb8; have hf := GW.out.free; have c4 := GW.out.2.1.ty HO.out)
              | (go_at_call 19; refine (goodType_any E.ty _).mono ?_; rintro x w9 ⟨rfl, rfl⟩; rw [HY.out]; have c5 := GW.out.2.1.bd HO.out))
            obtain ⟨q1, q2⟩ := GW.out.done zeroE zeroE_ok
            exact bodyPost_ret (results_cell2 Try.results12 rfl (ld_some q1 (ldr_eth _ _ _))) rfl ⟨by rw [HV.out]; rfl, q2⟩
          · have HV := Lib.hid (show R = (E, 0) by rw [HD.out, if_neg hlt])
            go_wp2_with (first
              | (go_at_call 26; (refine (bad_any _ _ _ _ _ GT.out.1.1).mono ?_); rintro x w6 ⟨rfl, rfl⟩)
              | (go_at_call 24; refine (bits_any n4 HWORD.out 12 1 _).mono ?_; rintro x w7 ⟨rfl, d, rfl⟩; rw [HB.out]; have GU := Lib.hid (GT.out.drewN d); clear hr hf; have hr := GU.out.2.1.row HO.out)
              | (go_at_call 20; refine (goodTag_any E HO.out _).mono ?_; rintro x w8 ⟨rfl, hb8⟩; rw [HG.out]; have GW := Lib.hid (GU.out.below hb8); clear hr hb8; have hf := GW.out.free; have c4 := GW.out.2.1.ty HO.out)
              | (go_at_call 19; refine (goodType_any E.ty _).mono ?_; rintro x w9 ⟨rfl, rfl⟩; rw [HY.out]; have c5 := GW.out.2.1.bd HO.out; have hr := GW.out.2.1.row HO.out))
            obtain ⟨q1, q2⟩ := GW.out.done E HO.out
            exact bodyPost_ret (results_cell2 Try.results12 rfl (ld_some q1 (ldr_eth _ _ _))) rfl ⟨by rw [HV.out]; rfl, q2⟩
    · have HV := Lib.hid (show R = (zeroE, 5) by rw [HRR.out]; simp [coreV, hb])
      have hb1 : ((bitsN n4 12 1 : Int) != 0) = true := by simpa using hb
      have HB := Lib.hid hb; clear hb
      go_wp2_with (first
        | (go_at_call 26; (refine (bad_any _ _ _ _ _ GT.out.1.1).mono ?_); rintro x w6 ⟨rfl, rfl⟩)
        | (go_at_call 24; refine (bits_any n4 HWORD.out 12 1 _).mono ?_; rintro x w7 ⟨rfl, d, rfl⟩; have GU := Lib.hid (GT.out.drewN d); clear hr hf; have hf := GU.out.free))
      obtain ⟨q1, q2⟩ := GU.out.done zeroE zeroE_ok
      exact bodyPost_ret (results_cell2 Try.results12 rfl (ld_some q1 (ldr_eth _ _ _))) rfl ⟨by rw [HV.out]; rfl, q2⟩
end Go.Proofs.Ytbanjmdfjodhaaa
