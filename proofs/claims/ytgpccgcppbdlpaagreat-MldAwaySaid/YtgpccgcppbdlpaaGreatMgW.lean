/-
  The contracts of mld's rest of queries of version 2.
-/
import Derived.Test.YtgpccgcppbdlpaaGreatMgX
namespace Go.Proofs.YtgpccgcppbdlpaaGreat
open Go.RowKit
set_option linter.unusedVariables false
set_option linter.unusedSimpArgs false
attribute [local go_sem ↓] ld_addr st_addr bld_addr ld_rec st_rec ld_tk st_tk bld_tk bld_shp adsLit_eq
attribute [local go_sem] ldr_addr str_addr str_addr_at ldr_tk str_tk bldr_shp ldr_rec str_rec row?_drew_eq

set_option maxRecDepth 100000 in
set_option maxHeartbeats 16000000 in
theorem rest21_core (v6 : Bool) (resp : Int) (g : AD) (quiet : Bool) (rob every : Int) (src : List AD) (rcs : List RC) (p : Option Addr) (n cap : Nat) (ur : Value) (w : World) (ho : adOk g) (cr fl ce : Nat) (x1 x2 x3 x4 x5 y1 y2 y3 y4 : List UInt8)
    (h16 : ∀ W, Calls Tryz.prog 62 #[.int .i64 resp] W fun x w' => x = .returned (.int .i64 cr) ∧ Below W.heap.size W w')
    (hn1 : ∀ W v, Ints W v [cr, 0] → Calls Tryz.prog 20 #[.int .i64 2, v] W fun x w' => x = .returned (.string (Str x1)) ∧ Below W.heap.size W w')
    (ha1 : ∀ W v, Ads W v [g] → Calls Tryz.prog 63 #[v] W fun x w' => x = .returned (.string (Str x2)) ∧ Below W.heap.size W w')
    (hf : ∀ W, Calls Tryz.prog 64 #[.agg (tkC ⟨v6, 2, 1, resp, g, quiet, rob, every, src, rcs⟩ (.slice p n cap) ur).toArray] W fun x w' => x = .returned (.int .i64 fl) ∧ Below W.heap.size W w')
    (h8 : ∀ W, Calls Tryz.prog 65 #[.int .i64 every] W fun x w' => x = .returned (.int .i64 ce) ∧ Below W.heap.size W w')
    (hn2 : ∀ W v, Ints W v [fl, ce] → Calls Tryz.prog 20 #[.int .i64 1, v] W fun x w' => x = .returned (.string (Str x3)) ∧ Below W.heap.size W w')
    (hn3 : ∀ W v, Ints W v [n] → Calls Tryz.prog 20 #[.int .i64 2, v] W fun x w' => x = .returned (.string (Str x4)) ∧ Below W.heap.size W w')
    (ha2 : ∀ W, Below w.heap.size w W → Calls Tryz.prog 63 #[.slice p n cap] W fun x w' => x = .returned (.string (Str x5)) ∧ Below W.heap.size W w')
    (c1 : ∀ w, (Op.stringOp .add (Str x1) (Str x2)).run Tryz.prog w = .ok (.string (Str y1)) w) (c2 : ∀ w, (Op.stringOp .add (Str y1) (Str x3)).run Tryz.prog w = .ok (.string (Str y2)) w) (c3 : ∀ w, (Op.stringOp .add (Str y2) (Str x4)).run Tryz.prog w = .ok (.string (Str y3)) w) (c4 : ∀ w, (Op.stringOp .add (Str y3) (Str x5)).run Tryz.prog w = .ok (.string (Str y4)) w) :
    Calls Tryz.prog 22 #[.agg (tkC ⟨v6, 2, 1, resp, g, quiet, rob, every, src, rcs⟩ (.slice p n cap) ur).toArray] w fun x w' => x = .returned (.string (Str y4)) ∧ Below w.heap.size w w' := by
  have T := Lib.hid (TB.made w ⟨v6, 2, 1, resp, g, quiet, rob, every, src, rcs⟩ (.slice p n cap) ur ho)
  have HS : Hid (∀ W, TB w W ⟨v6, 2, 1, resp, g, quiet, rob, every, src, rcs⟩ (.slice p n cap) ur → W.cell? ⟨w.heap.size, 3, none⟩ = some (.int .i64 resp) ∧ row? W w.heap.size 4 17 = some (adC g) ∧ row? W w.heap.size 0 26 = some (tkC ⟨v6, 2, 1, resp, g, quiet, rob, every, src, rcs⟩ (.slice p n cap) ur) ∧ W.cell? ⟨w.heap.size, 23, none⟩ = some (.int .i64 every) ∧ W.cell? ⟨w.heap.size, 24, none⟩ = some (.slice p n cap)) := Lib.hid fun W h => ⟨h.1.resp, h.1.rg, h.1.row, h.1.every, h.1.us⟩
  have HC : Hid (∀ W, TB w W ⟨v6, 2, 1, resp, g, quiet, rob, every, src, rcs⟩ (.slice p n cap) ur → W.cell? ⟨w.heap.size, 1, none⟩ = some (.int .i64 2) ∧ W.cell? ⟨w.heap.size, 2, none⟩ = some (.int .i64 1)) := Lib.hid fun W h => ⟨h.1.ver, h.1.kind⟩
  have H16 := Lib.hid h16
  have HN1 := Lib.hid hn1
  have HA1 := Lib.hid ha1
  have HF := Lib.hid hf
  have H8 := Lib.hid h8
  have HN2 := Lib.hid hn2
  have HN3 := Lib.hid hn3
  have HA2 : Hid (∀ W, TB w W ⟨v6, 2, 1, resp, g, quiet, rob, every, src, rcs⟩ (.slice p n cap) ur → Calls Tryz.prog 63 #[.slice p n cap] W fun x w' => x = .returned (.string (Str x5)) ∧ Below W.heap.size W w') := Lib.hid fun W h => ha2 W h.2
  have HOG := Lib.hid ho
  have hlit := adsLit_run g ho
  have q21 : ∀ w0, (Op.equalIn 10000 55 (.agg #[.int .i64 2, .int .i64 1]) (.agg #[.int .i64 2, .int .i64 1])).run Tryz.prog w0 = .ok true w0 := fun w0 => by rw [eq_shp]; rfl
  clear h16 hn1 ha1 hf h8 hn2 hn3 ha2 ho
  generalize ht : (⟨v6, 2, 1, resp, g, quiet, rob, every, src, rcs⟩ : TK) = t at *
  clear ht
  go_enter Tryz.func22, Tryz.ntmps22
  go_upto_region 1 with (fail)
  generalize w.alloc (.cells (tkC t _ _).toArray 28) = W0 at T ⊢
  obtain ⟨d1, d2⟩ := HC.out _ T.out
  go_upto_region 3 with (fail)
  clear d1 d2 q21 HC
  refine wp_region_held_drew (S := fun W => W.cell? ⟨w.heap.size, 3, none⟩ = some (.int .i64 resp) ∧ row? W w.heap.size 4 17 = some (adC g) ∧ row? W w.heap.size 0 26 = some (tkC t (.slice p n cap) ur) ∧ W.cell? ⟨w.heap.size, 23, none⟩ = some (.int .i64 every) ∧ W.cell? ⟨w.heap.size, 24, none⟩ = some (.slice p n cap)) (by kernel_rfl) (HS.out _ (T.out.drewN 1)) (fun hHeld => ?_)
  replace T := Lib.hid (T.out.drewN 1)
  change Hid (TB w (World.drew _) _ _ _) at T
  generalize World.drew _ = Wq at T hHeld ⊢
  rename World => Wc
  refine wpAnyH_take (i := 0) (oi := { dst := some 11, op := _, type := _, pos := _, after := _, guard := _ }) (v := ?v0) rfl (by kernel_rfl) (by kernel_rfl) (by kernel_rfl) (fun _ _ _ h => h) (Or.inl ⟨by rfl, ?y0⟩) (by assumption) ?r0
  case y0 => (intro w hSw; obtain ⟨s1, s2, s3, s4, s5⟩ := hSw; go_simp; try with_reducible rfl)
  try simp only [Act.put, List.setIfInBounds_toArray, List.set_cons_zero, List.set_cons_succ]
  refine wpAnyH_take (i := 1) (oi := { dst := some 12, op := _, type := _, pos := _, after := _, guard := _ }) (v := ?v1) rfl (by kernel_rfl) (by kernel_rfl) (by kernel_rfl) (fun _ _ _ h => h) (Or.inl ⟨by rfl, ?y1⟩) (by assumption) ?r1
  case y1 => (intro w hSw; obtain ⟨s1, s2, s3, s4, s5⟩ := hSw; go_simp; try with_reducible rfl)
  try simp only [Act.put, List.setIfInBounds_toArray, List.set_cons_zero, List.set_cons_succ]
  refine wpAnyH_take (i := 5) (oi := { dst := some 16, op := _, type := _, pos := _, after := _, guard := _ }) (v := ?v2) rfl (by kernel_rfl) (by kernel_rfl) (by kernel_rfl) (fun _ _ _ h => h) (Or.inl ⟨by rfl, ?y2⟩) (by assumption) ?r2
  case y2 => (intro w hSw; obtain ⟨s1, s2, s3, s4, s5⟩ := hSw; go_simp; try with_reducible rfl)
  try simp only [Act.put, List.setIfInBounds_toArray, List.set_cons_zero, List.set_cons_succ]
  refine wpAnyH_take (i := 6) (oi := { dst := some 17, op := _, type := _, pos := _, after := _, guard := _ }) (v := ?v3) rfl (by kernel_rfl) (by kernel_rfl) (by kernel_rfl) (fun _ _ _ h => h) (Or.inl ⟨by rfl, ?y3⟩) (by assumption) ?r3
  case y3 => (intro w hSw; obtain ⟨s1, s2, s3, s4, s5⟩ := hSw; go_simp; try with_reducible rfl)
  try simp only [Act.put, List.setIfInBounds_toArray, List.set_cons_zero, List.set_cons_succ]
  refine wpAnyH_take (i := 10) (oi := { dst := some 21, op := _, type := _, pos := _, after := _, guard := _ }) (v := ?v4) rfl (by kernel_rfl) (by kernel_rfl) (by kernel_rfl) (fun _ _ _ h => h) (Or.inl ⟨by rfl, ?y4⟩) (by assumption) ?r4
  case y4 => (intro w hSw; obtain ⟨s1, s2, s3, s4, s5⟩ := hSw; go_simp; try with_reducible rfl)
  try simp only [Act.put, List.setIfInBounds_toArray, List.set_cons_zero, List.set_cons_succ]
  refine wpAnyH_take (i := 12) (oi := { dst := some 23, op := _, type := _, pos := _, after := _, guard := _ }) (v := ?v5) rfl (by kernel_rfl) (by kernel_rfl) (by kernel_rfl) (fun _ _ _ h => h) (Or.inl ⟨by rfl, ?y5⟩) (by assumption) ?r5
  case y5 => (intro w hSw; obtain ⟨s1, s2, s3, s4, s5⟩ := hSw; go_simp; try with_reducible rfl)
  try simp only [Act.put, List.setIfInBounds_toArray, List.set_cons_zero, List.set_cons_succ]
  refine wpAnyH_take (i := 13) (oi := { dst := some 24, op := _, type := _, pos := _, after := _, guard := _ }) (v := ?v6) rfl (by kernel_rfl) (by kernel_rfl) (by kernel_rfl) (fun _ _ _ h => h) (Or.inl ⟨by rfl, ?y6⟩) (by assumption) ?r6
  case y6 => (intro w hSw; obtain ⟨s1, s2, s3, s4, s5⟩ := hSw; go_simp; try with_reducible rfl)
  try simp only [Act.put, List.setIfInBounds_toArray, List.set_cons_zero, List.set_cons_succ]
  refine wpAnyH_take (i := 18) (oi := { dst := some 29, op := _, type := _, pos := _, after := _, guard := _ }) (v := ?v7) rfl (by kernel_rfl) (by kernel_rfl) (by kernel_rfl) (fun _ _ _ h => h) (Or.inl ⟨by rfl, ?y7⟩) (by assumption) ?r7
  case y7 => (intro w hSw; obtain ⟨s1, s2, s3, s4, s5⟩ := hSw; go_simp; try with_reducible rfl)
  try simp only [Act.put, List.setIfInBounds_toArray, List.set_cons_zero, List.set_cons_succ]
  refine wpAnyH_take (i := 19) (oi := { dst := some 30, op := _, type := _, pos := _, after := _, guard := _ }) (v := ?v8) rfl (by kernel_rfl) (by kernel_rfl) (by kernel_rfl) (fun _ _ _ h => h) (Or.inl ⟨by rfl, ?y8⟩) (by assumption) ?r8
  case y8 => (intro w hSw; obtain ⟨s1, s2, s3, s4, s5⟩ := hSw; go_simp; try with_reducible rfl)
  try simp only [Act.put, List.setIfInBounds_toArray, List.set_cons_zero, List.set_cons_succ]
  refine wpAnyH_take (i := 20) (oi := { dst := some 31, op := _, type := _, pos := _, after := _, guard := _ }) (v := ?v9) rfl (by kernel_rfl) (by kernel_rfl) (by kernel_rfl) (fun _ _ _ h => h) (Or.inl ⟨by rfl, ?y9⟩) (by assumption) ?r9
  case y9 => (intro w hSw; obtain ⟨s1, s2, s3, s4, s5⟩ := hSw; go_simp; try with_reducible rfl)
  try simp only [Act.put, List.setIfInBounds_toArray, List.set_cons_zero, List.set_cons_succ]
  refine wpAnyH_take (i := 24) (oi := { dst := some 35, op := _, type := _, pos := _, after := _, guard := _ }) (v := ?v10) rfl (by kernel_rfl) (by kernel_rfl) (by kernel_rfl) (fun _ _ _ h => h) (Or.inl ⟨by rfl, ?y10⟩) (by assumption) ?r10
  case y10 => (intro w hSw; obtain ⟨s1, s2, s3, s4, s5⟩ := hSw; go_simp; try with_reducible rfl)
  try simp only [Act.put, List.setIfInBounds_toArray, List.set_cons_zero, List.set_cons_succ]
  refine wpAnyH_take (i := 25) (oi := { dst := some 36, op := _, type := _, pos := _, after := _, guard := _ }) (v := ?v11) rfl (by kernel_rfl) (by kernel_rfl) (by kernel_rfl) (fun _ _ _ h => h) (Or.inl ⟨by rfl, ?y11⟩) (by assumption) ?r11
  case y11 => (intro w hSw; obtain ⟨s1, s2, s3, s4, s5⟩ := hSw; go_simp; try with_reducible rfl)
  try simp only [Act.put, List.setIfInBounds_toArray, List.set_cons_zero, List.set_cons_succ]
  refine wpAnyH_ready (rs := [2, 7, 21]) (by kernel_rfl) (by simp) (AllReadyH.cons (o := { dst := some 13, op := _, type := _, pos := _, after := _, guard := _ }) rfl (fun K hK => (fun (mk2 : True) => ?_) trivial) (AllReadyH.cons (o := { dst := some 18, op := _, type := _, pos := _, after := _, guard := _ }) rfl (fun K hK => (fun (mk7 : True) => ?_) trivial) (AllReadyH.cons (o := { dst := some 32, op := _, type := _, pos := _, after := _, guard := _ }) rfl (fun K hK => (fun (mk21 : True) => ?_) trivial) AllReadyH.nil)))
  all_goals first
    | (clear mk2
       go_simp
       (go_at_call 62; (with_reducible refine (H16.out _).mono ?_); rintro x wn ⟨rfl, hb⟩; replace T := Lib.hid (T.out.keep hb); clear hb)
       try go_wp2_with fail
       refine hK.out _ _ (HS.out _ T.out) (fun hHeld => ?_)
       clear hK K
       try simp only [Act.put, List.setIfInBounds_toArray, List.set_cons_zero, List.set_cons_succ]
       rename World => Wc
       have s1 : True := trivial)
    | (clear mk7
       go_simp
       refine hK.out _ _ (HS.out _ (Lib.hid (T.out.keep (balloc Wc (.cells (adC g).toArray 24)))).out) (fun hHeld => ?_)
       clear hK K
       try simp only [Act.put, List.setIfInBounds_toArray, List.set_cons_zero, List.set_cons_succ]
       replace T := Lib.hid (T.out.keep (balloc Wc (.cells (adC g).toArray 24)))
       have A18 := Lib.hid (Ads.lit Wc g HOG.out)
       generalize World.alloc Wc _ = Wn at T A18 hHeld ⊢
       rename World => Wc
       have s0_7 : True := trivial)
    | (clear mk21
       go_simp
       refine hK.out _ _ (HS.out _ (Lib.hid (T.out.keep (balloc Wc (.cells #[.int .i64 n] 3)))).out) (fun hHeld => ?_)
       clear hK K
       try simp only [Act.put, List.setIfInBounds_toArray, List.set_cons_zero, List.set_cons_succ]
       replace T := Lib.hid (T.out.keep (balloc Wc (.cells #[.int .i64 n] 3)))
       have I32 := Lib.hid (Ints.lit1 Wc n)
       generalize World.alloc Wc _ = Wn at T I32 hHeld ⊢
       rename World => Wc
       have s0_21 : True := trivial)
  all_goals first
    | (clear s0_7
       refine wpAnyH_ready (rs := [2, 21]) (by kernel_rfl) (by simp) (AllReadyH.cons (o := { dst := some 13, op := _, type := _, pos := _, after := _, guard := _ }) rfl (fun K hK => (fun (mk2 : True) => ?_) trivial) (AllReadyH.cons (o := { dst := some 32, op := _, type := _, pos := _, after := _, guard := _ }) rfl (fun K hK => (fun (mk21 : True) => ?_) trivial) AllReadyH.nil))
       all_goals first
         | (clear mk2
            go_simp
            (go_at_call 62; (with_reducible refine (H16.out _).mono ?_); rintro x wn ⟨rfl, hb⟩; replace T := Lib.hid (T.out.keep hb); replace A18 := Lib.hid (A18.out.below hb); clear hb)
            try go_wp2_with fail
            refine hK.out _ _ (HS.out _ T.out) (fun hHeld => ?_)
            clear hK K
            try simp only [Act.put, List.setIfInBounds_toArray, List.set_cons_zero, List.set_cons_succ]
            rename World => Wc
            have s1_7 : True := trivial)
         | (clear mk21
            go_simp
            refine hK.out _ _ (HS.out _ (Lib.hid (T.out.keep (balloc Wc (.cells #[.int .i64 n] 3)))).out) (fun hHeld => ?_)
            clear hK K
            try simp only [Act.put, List.setIfInBounds_toArray, List.set_cons_zero, List.set_cons_succ]
            replace T := Lib.hid (T.out.keep (balloc Wc (.cells #[.int .i64 n] 3)))
            replace A18 := Lib.hid (A18.out.below (balloc Wc (.cells #[.int .i64 n] 3)))
            have I32 := Lib.hid (Ints.lit1 Wc n)
            generalize World.alloc Wc _ = Wn at T A18 I32 hHeld ⊢
            rename World => Wc
            have s0_7_21 : True := trivial))
    | (clear s0_21
       refine wpAnyH_ready (rs := [2, 7]) (by kernel_rfl) (by simp) (AllReadyH.cons (o := { dst := some 13, op := _, type := _, pos := _, after := _, guard := _ }) rfl (fun K hK => (fun (mk2 : True) => ?_) trivial) (AllReadyH.cons (o := { dst := some 18, op := _, type := _, pos := _, after := _, guard := _ }) rfl (fun K hK => (fun (mk7 : True) => ?_) trivial) AllReadyH.nil))
       all_goals first
         | (clear mk2
            go_simp
            (go_at_call 62; (with_reducible refine (H16.out _).mono ?_); rintro x wn ⟨rfl, hb⟩; replace T := Lib.hid (T.out.keep hb); replace I32 := Lib.hid (I32.out.below hb); clear hb)
            try go_wp2_with fail
            refine hK.out _ _ (HS.out _ T.out) (fun hHeld => ?_)
            clear hK K
            try simp only [Act.put, List.setIfInBounds_toArray, List.set_cons_zero, List.set_cons_succ]
            rename World => Wc
            have s1_21 : True := trivial)
         | (clear mk7
            go_simp
            refine hK.out _ _ (HS.out _ (Lib.hid (T.out.keep (balloc Wc (.cells (adC g).toArray 24)))).out) (fun hHeld => ?_)
            clear hK K
            try simp only [Act.put, List.setIfInBounds_toArray, List.set_cons_zero, List.set_cons_succ]
            replace T := Lib.hid (T.out.keep (balloc Wc (.cells (adC g).toArray 24)))
            replace I32 := Lib.hid (I32.out.below (balloc Wc (.cells (adC g).toArray 24)))
            have A18 := Lib.hid (Ads.lit Wc g HOG.out)
            generalize World.alloc Wc _ = Wn at T I32 A18 hHeld ⊢
            rename World => Wc
            have s0_7_21 : True := trivial))
    | (clear s1
       refine wpAnyH_ready (rs := [3, 7, 21]) (by kernel_rfl) (by simp) (AllReadyH.cons (o := { dst := some 14, op := _, type := _, pos := _, after := _, guard := _ }) rfl (fun K hK => (fun (mk3 : True) => ?_) trivial) (AllReadyH.cons (o := { dst := some 18, op := _, type := _, pos := _, after := _, guard := _ }) rfl (fun K hK => (fun (mk7 : True) => ?_) trivial) (AllReadyH.cons (o := { dst := some 32, op := _, type := _, pos := _, after := _, guard := _ }) rfl (fun K hK => (fun (mk21 : True) => ?_) trivial) AllReadyH.nil)))
       all_goals first
         | (clear mk3
            go_simp
            refine hK.out _ _ (HS.out _ (Lib.hid (T.out.keep (balloc Wc (.cells #[.int .i64 cr, .int .i64 0] 3)))).out) (fun hHeld => ?_)
            clear hK K
            try simp only [Act.put, List.setIfInBounds_toArray, List.set_cons_zero, List.set_cons_succ]
            replace T := Lib.hid (T.out.keep (balloc Wc (.cells #[.int .i64 cr, .int .i64 0] 3)))
            have I14 := Lib.hid (Ints.lit20 Wc cr)
            generalize World.alloc Wc _ = Wn at T I14 hHeld ⊢
            rename World => Wc
            have s2 : True := trivial)
         | (clear mk7
            go_simp
            refine hK.out _ _ (HS.out _ (Lib.hid (T.out.keep (balloc Wc (.cells (adC g).toArray 24)))).out) (fun hHeld => ?_)
            clear hK K
            try simp only [Act.put, List.setIfInBounds_toArray, List.set_cons_zero, List.set_cons_succ]
            replace T := Lib.hid (T.out.keep (balloc Wc (.cells (adC g).toArray 24)))
            have A18 := Lib.hid (Ads.lit Wc g HOG.out)
            generalize World.alloc Wc _ = Wn at T A18 hHeld ⊢
            rename World => Wc
            have s1_7 : True := trivial)
         | (clear mk21
            go_simp
            refine hK.out _ _ (HS.out _ (Lib.hid (T.out.keep (balloc Wc (.cells #[.int .i64 n] 3)))).out) (fun hHeld => ?_)
            clear hK K
            try simp only [Act.put, List.setIfInBounds_toArray, List.set_cons_zero, List.set_cons_succ]
            replace T := Lib.hid (T.out.keep (balloc Wc (.cells #[.int .i64 n] 3)))
            have I32 := Lib.hid (Ints.lit1 Wc n)
            generalize World.alloc Wc _ = Wn at T I32 hHeld ⊢
            rename World => Wc
            have s1_21 : True := trivial))
  all_goals first
    | (clear s0_7_21
       refine wpAnyH_ready (rs := [2]) (by kernel_rfl) (by simp) (AllReadyH.cons (o := { dst := some 13, op := _, type := _, pos := _, after := _, guard := _ }) rfl (fun K hK => ?_) AllReadyH.nil)
       go_simp
       (go_at_call 62; (with_reducible refine (H16.out _).mono ?_); rintro x wn ⟨rfl, hb⟩; replace T := Lib.hid (T.out.keep hb); replace I32 := Lib.hid (I32.out.below hb); replace A18 := Lib.hid (A18.out.below hb); clear hb)
       try go_wp2_with fail
       refine hK.out _ _ (HS.out _ T.out) (fun hHeld => ?_)
       clear hK K
       try simp only [Act.put, List.setIfInBounds_toArray, List.set_cons_zero, List.set_cons_succ]
       rename World => Wc
       have s1_7_21 : True := trivial)
    | (clear s1_7
       refine wpAnyH_ready (rs := [3, 21]) (by kernel_rfl) (by simp) (AllReadyH.cons (o := { dst := some 14, op := _, type := _, pos := _, after := _, guard := _ }) rfl (fun K hK => (fun (mk3 : True) => ?_) trivial) (AllReadyH.cons (o := { dst := some 32, op := _, type := _, pos := _, after := _, guard := _ }) rfl (fun K hK => (fun (mk21 : True) => ?_) trivial) AllReadyH.nil))
       all_goals first
         | (clear mk3
            go_simp
            refine hK.out _ _ (HS.out _ (Lib.hid (T.out.keep (balloc Wc (.cells #[.int .i64 cr, .int .i64 0] 3)))).out) (fun hHeld => ?_)
            clear hK K
            try simp only [Act.put, List.setIfInBounds_toArray, List.set_cons_zero, List.set_cons_succ]
            replace T := Lib.hid (T.out.keep (balloc Wc (.cells #[.int .i64 cr, .int .i64 0] 3)))
            replace A18 := Lib.hid (A18.out.below (balloc Wc (.cells #[.int .i64 cr, .int .i64 0] 3)))
            have I14 := Lib.hid (Ints.lit20 Wc cr)
            generalize World.alloc Wc _ = Wn at T A18 I14 hHeld ⊢
            rename World => Wc
            have s2_7 : True := trivial)
         | (clear mk21
            go_simp
            refine hK.out _ _ (HS.out _ (Lib.hid (T.out.keep (balloc Wc (.cells #[.int .i64 n] 3)))).out) (fun hHeld => ?_)
            clear hK K
            try simp only [Act.put, List.setIfInBounds_toArray, List.set_cons_zero, List.set_cons_succ]
            replace T := Lib.hid (T.out.keep (balloc Wc (.cells #[.int .i64 n] 3)))
            replace A18 := Lib.hid (A18.out.below (balloc Wc (.cells #[.int .i64 n] 3)))
            have I32 := Lib.hid (Ints.lit1 Wc n)
            generalize World.alloc Wc _ = Wn at T A18 I32 hHeld ⊢
            rename World => Wc
            have s1_7_21 : True := trivial))
    | (clear s1_21
       refine wpAnyH_ready (rs := [3, 7]) (by kernel_rfl) (by simp) (AllReadyH.cons (o := { dst := some 14, op := _, type := _, pos := _, after := _, guard := _ }) rfl (fun K hK => (fun (mk3 : True) => ?_) trivial) (AllReadyH.cons (o := { dst := some 18, op := _, type := _, pos := _, after := _, guard := _ }) rfl (fun K hK => (fun (mk7 : True) => ?_) trivial) AllReadyH.nil))
       all_goals first
         | (clear mk3
            go_simp
            refine hK.out _ _ (HS.out _ (Lib.hid (T.out.keep (balloc Wc (.cells #[.int .i64 cr, .int .i64 0] 3)))).out) (fun hHeld => ?_)
            clear hK K
            try simp only [Act.put, List.setIfInBounds_toArray, List.set_cons_zero, List.set_cons_succ]
            replace T := Lib.hid (T.out.keep (balloc Wc (.cells #[.int .i64 cr, .int .i64 0] 3)))
            replace I32 := Lib.hid (I32.out.below (balloc Wc (.cells #[.int .i64 cr, .int .i64 0] 3)))
            have I14 := Lib.hid (Ints.lit20 Wc cr)
            generalize World.alloc Wc _ = Wn at T I32 I14 hHeld ⊢
            rename World => Wc
            have s2_21 : True := trivial)
         | (clear mk7
            go_simp
            refine hK.out _ _ (HS.out _ (Lib.hid (T.out.keep (balloc Wc (.cells (adC g).toArray 24)))).out) (fun hHeld => ?_)
            clear hK K
            try simp only [Act.put, List.setIfInBounds_toArray, List.set_cons_zero, List.set_cons_succ]
            replace T := Lib.hid (T.out.keep (balloc Wc (.cells (adC g).toArray 24)))
            replace I32 := Lib.hid (I32.out.below (balloc Wc (.cells (adC g).toArray 24)))
            have A18 := Lib.hid (Ads.lit Wc g HOG.out)
            generalize World.alloc Wc _ = Wn at T I32 A18 hHeld ⊢
            rename World => Wc
            have s1_7_21 : True := trivial))
    | (clear s2
       refine wpAnyH_ready (rs := [4, 7, 21]) (by kernel_rfl) (by simp) (AllReadyH.cons (o := { dst := some 15, op := _, type := _, pos := _, after := _, guard := _ }) rfl (fun K hK => (fun (mk4 : True) => ?_) trivial) (AllReadyH.cons (o := { dst := some 18, op := _, type := _, pos := _, after := _, guard := _ }) rfl (fun K hK => (fun (mk7 : True) => ?_) trivial) (AllReadyH.cons (o := { dst := some 32, op := _, type := _, pos := _, after := _, guard := _ }) rfl (fun K hK => (fun (mk21 : True) => ?_) trivial) AllReadyH.nil)))
       all_goals first
         | (clear mk4
            go_simp
            (go_at_call 20; (with_reducible refine (HN1.out _ _ I14.out).mono ?_); rintro x wn ⟨rfl, hb⟩; replace T := Lib.hid (T.out.keep hb); clear hb)
            try go_wp2_with fail
            refine hK.out _ _ (HS.out _ T.out) (fun hHeld => ?_)
            clear hK K
            try simp only [Act.put, List.setIfInBounds_toArray, List.set_cons_zero, List.set_cons_succ]
            rename World => Wc
            have s3 : True := trivial)
         | (clear mk7
            go_simp
            refine hK.out _ _ (HS.out _ (Lib.hid (T.out.keep (balloc Wc (.cells (adC g).toArray 24)))).out) (fun hHeld => ?_)
            clear hK K
            try simp only [Act.put, List.setIfInBounds_toArray, List.set_cons_zero, List.set_cons_succ]
            replace T := Lib.hid (T.out.keep (balloc Wc (.cells (adC g).toArray 24)))
            replace I14 := Lib.hid (I14.out.below (balloc Wc (.cells (adC g).toArray 24)))
            have A18 := Lib.hid (Ads.lit Wc g HOG.out)
            generalize World.alloc Wc _ = Wn at T I14 A18 hHeld ⊢
            rename World => Wc
            have s2_7 : True := trivial)
         | (clear mk21
            go_simp
            refine hK.out _ _ (HS.out _ (Lib.hid (T.out.keep (balloc Wc (.cells #[.int .i64 n] 3)))).out) (fun hHeld => ?_)
            clear hK K
            try simp only [Act.put, List.setIfInBounds_toArray, List.set_cons_zero, List.set_cons_succ]
            replace T := Lib.hid (T.out.keep (balloc Wc (.cells #[.int .i64 n] 3)))
            replace I14 := Lib.hid (I14.out.below (balloc Wc (.cells #[.int .i64 n] 3)))
            have I32 := Lib.hid (Ints.lit1 Wc n)
            generalize World.alloc Wc _ = Wn at T I14 I32 hHeld ⊢
            rename World => Wc
            have s2_21 : True := trivial))
  all_goals first
    | (clear s1_7_21
       refine wpAnyH_ready (rs := [3]) (by kernel_rfl) (by simp) (AllReadyH.cons (o := { dst := some 14, op := _, type := _, pos := _, after := _, guard := _ }) rfl (fun K hK => ?_) AllReadyH.nil)
       go_simp
       refine hK.out _ _ (HS.out _ (Lib.hid (T.out.keep (balloc Wc (.cells #[.int .i64 cr, .int .i64 0] 3)))).out) (fun hHeld => ?_)
       clear hK K
       try simp only [Act.put, List.setIfInBounds_toArray, List.set_cons_zero, List.set_cons_succ]
       replace T := Lib.hid (T.out.keep (balloc Wc (.cells #[.int .i64 cr, .int .i64 0] 3)))
       replace I32 := Lib.hid (I32.out.below (balloc Wc (.cells #[.int .i64 cr, .int .i64 0] 3)))
       replace A18 := Lib.hid (A18.out.below (balloc Wc (.cells #[.int .i64 cr, .int .i64 0] 3)))
       have I14 := Lib.hid (Ints.lit20 Wc cr)
       generalize World.alloc Wc _ = Wn at T I32 A18 I14 hHeld ⊢
       rename World => Wc
       have s2_7_21 : True := trivial)
    | (clear s2_7
       refine wpAnyH_ready (rs := [4, 21]) (by kernel_rfl) (by simp) (AllReadyH.cons (o := { dst := some 15, op := _, type := _, pos := _, after := _, guard := _ }) rfl (fun K hK => (fun (mk4 : True) => ?_) trivial) (AllReadyH.cons (o := { dst := some 32, op := _, type := _, pos := _, after := _, guard := _ }) rfl (fun K hK => (fun (mk21 : True) => ?_) trivial) AllReadyH.nil))
       all_goals first
         | (clear mk4
            go_simp
            (go_at_call 20; (with_reducible refine (HN1.out _ _ I14.out).mono ?_); rintro x wn ⟨rfl, hb⟩; replace T := Lib.hid (T.out.keep hb); replace A18 := Lib.hid (A18.out.below hb); clear hb)
            try go_wp2_with fail
            refine hK.out _ _ (HS.out _ T.out) (fun hHeld => ?_)
            clear hK K
            try simp only [Act.put, List.setIfInBounds_toArray, List.set_cons_zero, List.set_cons_succ]
            rename World => Wc
            have s3_7 : True := trivial)
         | (clear mk21
            go_simp
            refine hK.out _ _ (HS.out _ (Lib.hid (T.out.keep (balloc Wc (.cells #[.int .i64 n] 3)))).out) (fun hHeld => ?_)
            clear hK K
            try simp only [Act.put, List.setIfInBounds_toArray, List.set_cons_zero, List.set_cons_succ]
            replace T := Lib.hid (T.out.keep (balloc Wc (.cells #[.int .i64 n] 3)))
            replace A18 := Lib.hid (A18.out.below (balloc Wc (.cells #[.int .i64 n] 3)))
            replace I14 := Lib.hid (I14.out.below (balloc Wc (.cells #[.int .i64 n] 3)))
            have I32 := Lib.hid (Ints.lit1 Wc n)
            generalize World.alloc Wc _ = Wn at T A18 I14 I32 hHeld ⊢
            rename World => Wc
            have s2_7_21 : True := trivial))
    | (clear s2_21
       refine wpAnyH_ready (rs := [4, 7]) (by kernel_rfl) (by simp) (AllReadyH.cons (o := { dst := some 15, op := _, type := _, pos := _, after := _, guard := _ }) rfl (fun K hK => (fun (mk4 : True) => ?_) trivial) (AllReadyH.cons (o := { dst := some 18, op := _, type := _, pos := _, after := _, guard := _ }) rfl (fun K hK => (fun (mk7 : True) => ?_) trivial) AllReadyH.nil))
       all_goals first
         | (clear mk4
            go_simp
            (go_at_call 20; (with_reducible refine (HN1.out _ _ I14.out).mono ?_); rintro x wn ⟨rfl, hb⟩; replace T := Lib.hid (T.out.keep hb); replace I32 := Lib.hid (I32.out.below hb); clear hb)
            try go_wp2_with fail
            refine hK.out _ _ (HS.out _ T.out) (fun hHeld => ?_)
            clear hK K
            try simp only [Act.put, List.setIfInBounds_toArray, List.set_cons_zero, List.set_cons_succ]
            rename World => Wc
            have s3_21 : True := trivial)
         | (clear mk7
            go_simp
            refine hK.out _ _ (HS.out _ (Lib.hid (T.out.keep (balloc Wc (.cells (adC g).toArray 24)))).out) (fun hHeld => ?_)
            clear hK K
            try simp only [Act.put, List.setIfInBounds_toArray, List.set_cons_zero, List.set_cons_succ]
            replace T := Lib.hid (T.out.keep (balloc Wc (.cells (adC g).toArray 24)))
            replace I32 := Lib.hid (I32.out.below (balloc Wc (.cells (adC g).toArray 24)))
            replace I14 := Lib.hid (I14.out.below (balloc Wc (.cells (adC g).toArray 24)))
            have A18 := Lib.hid (Ads.lit Wc g HOG.out)
            generalize World.alloc Wc _ = Wn at T I32 I14 A18 hHeld ⊢
            rename World => Wc
            have s2_7_21 : True := trivial))
    | (clear s3
       refine wpAnyH_ready (rs := [7, 21]) (by kernel_rfl) (by simp) (AllReadyH.cons (o := { dst := some 18, op := _, type := _, pos := _, after := _, guard := _ }) rfl (fun K hK => (fun (mk7 : True) => ?_) trivial) (AllReadyH.cons (o := { dst := some 32, op := _, type := _, pos := _, after := _, guard := _ }) rfl (fun K hK => (fun (mk21 : True) => ?_) trivial) AllReadyH.nil))
       all_goals first
         | (clear mk7
            go_simp
            refine hK.out _ _ (HS.out _ (Lib.hid (T.out.keep (balloc Wc (.cells (adC g).toArray 24)))).out) (fun hHeld => ?_)
            clear hK K
            try simp only [Act.put, List.setIfInBounds_toArray, List.set_cons_zero, List.set_cons_succ]
            replace T := Lib.hid (T.out.keep (balloc Wc (.cells (adC g).toArray 24)))
            have A18 := Lib.hid (Ads.lit Wc g HOG.out)
            generalize World.alloc Wc _ = Wn at T A18 hHeld ⊢
            rename World => Wc
            have s3_7 : True := trivial)
         | (clear mk21
            go_simp
            refine hK.out _ _ (HS.out _ (Lib.hid (T.out.keep (balloc Wc (.cells #[.int .i64 n] 3)))).out) (fun hHeld => ?_)
            clear hK K
            try simp only [Act.put, List.setIfInBounds_toArray, List.set_cons_zero, List.set_cons_succ]
            replace T := Lib.hid (T.out.keep (balloc Wc (.cells #[.int .i64 n] 3)))
            have I32 := Lib.hid (Ints.lit1 Wc n)
            generalize World.alloc Wc _ = Wn at T I32 hHeld ⊢
            rename World => Wc
            have s3_21 : True := trivial))
  all_goals first
    | (clear s2_7_21
       refine wpAnyH_ready (rs := [4]) (by kernel_rfl) (by simp) (AllReadyH.cons (o := { dst := some 15, op := _, type := _, pos := _, after := _, guard := _ }) rfl (fun K hK => ?_) AllReadyH.nil)
       go_simp
       (go_at_call 20; (with_reducible refine (HN1.out _ _ I14.out).mono ?_); rintro x wn ⟨rfl, hb⟩; replace T := Lib.hid (T.out.keep hb); replace I32 := Lib.hid (I32.out.below hb); replace A18 := Lib.hid (A18.out.below hb); clear hb)
       try go_wp2_with fail
       refine hK.out _ _ (HS.out _ T.out) (fun hHeld => ?_)
       clear hK K
       try simp only [Act.put, List.setIfInBounds_toArray, List.set_cons_zero, List.set_cons_succ]
       rename World => Wc
       have s3_7_21 : True := trivial)
    | (clear s3_7
       refine wpAnyH_ready (rs := [8, 21]) (by kernel_rfl) (by simp) (AllReadyH.cons (o := { dst := some 19, op := _, type := _, pos := _, after := _, guard := _ }) rfl (fun K hK => (fun (mk8 : True) => ?_) trivial) (AllReadyH.cons (o := { dst := some 32, op := _, type := _, pos := _, after := _, guard := _ }) rfl (fun K hK => (fun (mk21 : True) => ?_) trivial) AllReadyH.nil))
       all_goals first
         | (clear mk8
            go_simp
            (go_at_call 63; (with_reducible refine (HA1.out _ _ A18.out).mono ?_); rintro x wn ⟨rfl, hb⟩; replace T := Lib.hid (T.out.keep hb); clear hb)
            try go_wp2_with fail
            refine hK.out _ _ (HS.out _ T.out) (fun hHeld => ?_)
            clear hK K
            try simp only [Act.put, List.setIfInBounds_toArray, List.set_cons_zero, List.set_cons_succ]
            rename World => Wc
            refine wpAnyH_take (i := 9) (oi := { dst := some 20, op := _, type := _, pos := _, after := _, guard := _ }) (v := .string (Str y1)) rfl (by kernel_rfl) (by kernel_rfl) (by kernel_rfl) (fun _ _ _ h => h) (Or.inl ⟨by rfl, ?_⟩) (by assumption) ?_
            · (intro w hSw; go_simp; try with_reducible rfl)
            try simp only [Act.put, List.setIfInBounds_toArray, List.set_cons_zero, List.set_cons_succ]
            have s4_7 : True := trivial)
         | (clear mk21
            go_simp
            refine hK.out _ _ (HS.out _ (Lib.hid (T.out.keep (balloc Wc (.cells #[.int .i64 n] 3)))).out) (fun hHeld => ?_)
            clear hK K
            try simp only [Act.put, List.setIfInBounds_toArray, List.set_cons_zero, List.set_cons_succ]
            replace T := Lib.hid (T.out.keep (balloc Wc (.cells #[.int .i64 n] 3)))
            replace A18 := Lib.hid (A18.out.below (balloc Wc (.cells #[.int .i64 n] 3)))
            have I32 := Lib.hid (Ints.lit1 Wc n)
            generalize World.alloc Wc _ = Wn at T A18 I32 hHeld ⊢
            rename World => Wc
            have s3_7_21 : True := trivial))
    | (clear s3_21
       refine wpAnyH_ready (rs := [7]) (by kernel_rfl) (by simp) (AllReadyH.cons (o := { dst := some 18, op := _, type := _, pos := _, after := _, guard := _ }) rfl (fun K hK => ?_) AllReadyH.nil)
       go_simp
       refine hK.out _ _ (HS.out _ (Lib.hid (T.out.keep (balloc Wc (.cells (adC g).toArray 24)))).out) (fun hHeld => ?_)
       clear hK K
       try simp only [Act.put, List.setIfInBounds_toArray, List.set_cons_zero, List.set_cons_succ]
       replace T := Lib.hid (T.out.keep (balloc Wc (.cells (adC g).toArray 24)))
       replace I32 := Lib.hid (I32.out.below (balloc Wc (.cells (adC g).toArray 24)))
       have A18 := Lib.hid (Ads.lit Wc g HOG.out)
       generalize World.alloc Wc _ = Wn at T I32 A18 hHeld ⊢
       rename World => Wc
       have s3_7_21 : True := trivial)
  all_goals first
    | (clear s3_7_21
       refine wpAnyH_ready (rs := [8]) (by kernel_rfl) (by simp) (AllReadyH.cons (o := { dst := some 19, op := _, type := _, pos := _, after := _, guard := _ }) rfl (fun K hK => ?_) AllReadyH.nil)
       go_simp
       (go_at_call 63; (with_reducible refine (HA1.out _ _ A18.out).mono ?_); rintro x wn ⟨rfl, hb⟩; replace T := Lib.hid (T.out.keep hb); replace I32 := Lib.hid (I32.out.below hb); clear hb)
       try go_wp2_with fail
       refine hK.out _ _ (HS.out _ T.out) (fun hHeld => ?_)
       clear hK K
       try simp only [Act.put, List.setIfInBounds_toArray, List.set_cons_zero, List.set_cons_succ]
       rename World => Wc
       refine wpAnyH_take (i := 9) (oi := { dst := some 20, op := _, type := _, pos := _, after := _, guard := _ }) (v := .string (Str y1)) rfl (by kernel_rfl) (by kernel_rfl) (by kernel_rfl) (fun _ _ _ h => h) (Or.inl ⟨by rfl, ?_⟩) (by assumption) ?_
       · (intro w hSw; go_simp; try with_reducible rfl)
       try simp only [Act.put, List.setIfInBounds_toArray, List.set_cons_zero, List.set_cons_succ]
       have s4_7_21 : True := trivial)
    | (clear s4_7
       refine wpAnyH_ready (rs := [11, 21]) (by kernel_rfl) (by simp) (AllReadyH.cons (o := { dst := some 22, op := _, type := _, pos := _, after := _, guard := _ }) rfl (fun K hK => (fun (mk11 : True) => ?_) trivial) (AllReadyH.cons (o := { dst := some 32, op := _, type := _, pos := _, after := _, guard := _ }) rfl (fun K hK => (fun (mk21 : True) => ?_) trivial) AllReadyH.nil))
       all_goals first
         | (clear mk11
            go_simp
            (go_at_call 64; (with_reducible refine (HF.out _).mono ?_); rintro x wn ⟨rfl, hb⟩; replace T := Lib.hid (T.out.keep hb); clear hb)
            try go_wp2_with fail
            refine hK.out _ _ (HS.out _ T.out) (fun hHeld => ?_)
            clear hK K
            try simp only [Act.put, List.setIfInBounds_toArray, List.set_cons_zero, List.set_cons_succ]
            rename World => Wc
            have s5_7 : True := trivial)
         | (clear mk21
            go_simp
            refine hK.out _ _ (HS.out _ (Lib.hid (T.out.keep (balloc Wc (.cells #[.int .i64 n] 3)))).out) (fun hHeld => ?_)
            clear hK K
            try simp only [Act.put, List.setIfInBounds_toArray, List.set_cons_zero, List.set_cons_succ]
            replace T := Lib.hid (T.out.keep (balloc Wc (.cells #[.int .i64 n] 3)))
            have I32 := Lib.hid (Ints.lit1 Wc n)
            generalize World.alloc Wc _ = Wn at T I32 hHeld ⊢
            rename World => Wc
            have s4_7_21 : True := trivial))
  all_goals first
    | (clear s4_7_21
       refine wpAnyH_ready (rs := [11]) (by kernel_rfl) (by simp) (AllReadyH.cons (o := { dst := some 22, op := _, type := _, pos := _, after := _, guard := _ }) rfl (fun K hK => ?_) AllReadyH.nil)
       go_simp
       (go_at_call 64; (with_reducible refine (HF.out _).mono ?_); rintro x wn ⟨rfl, hb⟩; replace T := Lib.hid (T.out.keep hb); replace I32 := Lib.hid (I32.out.below hb); clear hb)
       try go_wp2_with fail
       refine hK.out _ _ (HS.out _ T.out) (fun hHeld => ?_)
       clear hK K
       try simp only [Act.put, List.setIfInBounds_toArray, List.set_cons_zero, List.set_cons_succ]
       rename World => Wc
       have s5_7_21 : True := trivial)
    | (clear s5_7
       refine wpAnyH_ready (rs := [14, 21]) (by kernel_rfl) (by simp) (AllReadyH.cons (o := { dst := some 25, op := _, type := _, pos := _, after := _, guard := _ }) rfl (fun K hK => (fun (mk14 : True) => ?_) trivial) (AllReadyH.cons (o := { dst := some 32, op := _, type := _, pos := _, after := _, guard := _ }) rfl (fun K hK => (fun (mk21 : True) => ?_) trivial) AllReadyH.nil))
       all_goals first
         | (clear mk14
            go_simp
            (go_at_call 65; (with_reducible refine (H8.out _).mono ?_); rintro x wn ⟨rfl, hb⟩; replace T := Lib.hid (T.out.keep hb); clear hb)
            try go_wp2_with fail
            refine hK.out _ _ (HS.out _ T.out) (fun hHeld => ?_)
            clear hK K
            try simp only [Act.put, List.setIfInBounds_toArray, List.set_cons_zero, List.set_cons_succ]
            rename World => Wc
            have s6_7 : True := trivial)
         | (clear mk21
            go_simp
            refine hK.out _ _ (HS.out _ (Lib.hid (T.out.keep (balloc Wc (.cells #[.int .i64 n] 3)))).out) (fun hHeld => ?_)
            clear hK K
            try simp only [Act.put, List.setIfInBounds_toArray, List.set_cons_zero, List.set_cons_succ]
            replace T := Lib.hid (T.out.keep (balloc Wc (.cells #[.int .i64 n] 3)))
            have I32 := Lib.hid (Ints.lit1 Wc n)
            generalize World.alloc Wc _ = Wn at T I32 hHeld ⊢
            rename World => Wc
            have s5_7_21 : True := trivial))
  all_goals first
    | (clear s5_7_21
       refine wpAnyH_ready (rs := [14]) (by kernel_rfl) (by simp) (AllReadyH.cons (o := { dst := some 25, op := _, type := _, pos := _, after := _, guard := _ }) rfl (fun K hK => ?_) AllReadyH.nil)
       go_simp
       (go_at_call 65; (with_reducible refine (H8.out _).mono ?_); rintro x wn ⟨rfl, hb⟩; replace T := Lib.hid (T.out.keep hb); replace I32 := Lib.hid (I32.out.below hb); clear hb)
       try go_wp2_with fail
       refine hK.out _ _ (HS.out _ T.out) (fun hHeld => ?_)
       clear hK K
       try simp only [Act.put, List.setIfInBounds_toArray, List.set_cons_zero, List.set_cons_succ]
       rename World => Wc
       have s6_7_21 : True := trivial)
    | (clear s6_7
       refine wpAnyH_ready (rs := [15, 21]) (by kernel_rfl) (by simp) (AllReadyH.cons (o := { dst := some 26, op := _, type := _, pos := _, after := _, guard := _ }) rfl (fun K hK => (fun (mk15 : True) => ?_) trivial) (AllReadyH.cons (o := { dst := some 32, op := _, type := _, pos := _, after := _, guard := _ }) rfl (fun K hK => (fun (mk21 : True) => ?_) trivial) AllReadyH.nil))
       all_goals first
         | (clear mk15
            go_simp
            refine hK.out _ _ (HS.out _ (Lib.hid (T.out.keep (balloc Wc (.cells #[.int .i64 fl, .int .i64 ce] 3)))).out) (fun hHeld => ?_)
            clear hK K
            try simp only [Act.put, List.setIfInBounds_toArray, List.set_cons_zero, List.set_cons_succ]
            replace T := Lib.hid (T.out.keep (balloc Wc (.cells #[.int .i64 fl, .int .i64 ce] 3)))
            have I26 := Lib.hid (Ints.lit2 Wc fl ce)
            generalize World.alloc Wc _ = Wn at T I26 hHeld ⊢
            rename World => Wc
            have s7_7 : True := trivial)
         | (clear mk21
            go_simp
            refine hK.out _ _ (HS.out _ (Lib.hid (T.out.keep (balloc Wc (.cells #[.int .i64 n] 3)))).out) (fun hHeld => ?_)
            clear hK K
            try simp only [Act.put, List.setIfInBounds_toArray, List.set_cons_zero, List.set_cons_succ]
            replace T := Lib.hid (T.out.keep (balloc Wc (.cells #[.int .i64 n] 3)))
            have I32 := Lib.hid (Ints.lit1 Wc n)
            generalize World.alloc Wc _ = Wn at T I32 hHeld ⊢
            rename World => Wc
            have s6_7_21 : True := trivial))
  all_goals first
    | (clear s6_7_21
       refine wpAnyH_ready (rs := [15]) (by kernel_rfl) (by simp) (AllReadyH.cons (o := { dst := some 26, op := _, type := _, pos := _, after := _, guard := _ }) rfl (fun K hK => ?_) AllReadyH.nil)
       go_simp
       refine hK.out _ _ (HS.out _ (Lib.hid (T.out.keep (balloc Wc (.cells #[.int .i64 fl, .int .i64 ce] 3)))).out) (fun hHeld => ?_)
       clear hK K
       try simp only [Act.put, List.setIfInBounds_toArray, List.set_cons_zero, List.set_cons_succ]
       replace T := Lib.hid (T.out.keep (balloc Wc (.cells #[.int .i64 fl, .int .i64 ce] 3)))
       replace I32 := Lib.hid (I32.out.below (balloc Wc (.cells #[.int .i64 fl, .int .i64 ce] 3)))
       have I26 := Lib.hid (Ints.lit2 Wc fl ce)
       generalize World.alloc Wc _ = Wn at T I32 I26 hHeld ⊢
       rename World => Wc
       have s7_7_21 : True := trivial)
    | (clear s7_7
       refine wpAnyH_ready (rs := [16, 21]) (by kernel_rfl) (by simp) (AllReadyH.cons (o := { dst := some 27, op := _, type := _, pos := _, after := _, guard := _ }) rfl (fun K hK => (fun (mk16 : True) => ?_) trivial) (AllReadyH.cons (o := { dst := some 32, op := _, type := _, pos := _, after := _, guard := _ }) rfl (fun K hK => (fun (mk21 : True) => ?_) trivial) AllReadyH.nil))
       all_goals first
         | (clear mk16
            go_simp
            (go_at_call 20; (with_reducible refine (HN2.out _ _ I26.out).mono ?_); rintro x wn ⟨rfl, hb⟩; replace T := Lib.hid (T.out.keep hb); clear hb)
            try go_wp2_with fail
            refine hK.out _ _ (HS.out _ T.out) (fun hHeld => ?_)
            clear hK K
            try simp only [Act.put, List.setIfInBounds_toArray, List.set_cons_zero, List.set_cons_succ]
            rename World => Wc
            refine wpAnyH_take (i := 17) (oi := { dst := some 28, op := _, type := _, pos := _, after := _, guard := _ }) (v := .string (Str y2)) rfl (by kernel_rfl) (by kernel_rfl) (by kernel_rfl) (fun _ _ _ h => h) (Or.inl ⟨by rfl, ?_⟩) (by assumption) ?_
            · (intro w hSw; go_simp; try with_reducible rfl)
            try simp only [Act.put, List.setIfInBounds_toArray, List.set_cons_zero, List.set_cons_succ]
            have s8_7 : True := trivial)
         | (clear mk21
            go_simp
            refine hK.out _ _ (HS.out _ (Lib.hid (T.out.keep (balloc Wc (.cells #[.int .i64 n] 3)))).out) (fun hHeld => ?_)
            clear hK K
            try simp only [Act.put, List.setIfInBounds_toArray, List.set_cons_zero, List.set_cons_succ]
            replace T := Lib.hid (T.out.keep (balloc Wc (.cells #[.int .i64 n] 3)))
            replace I26 := Lib.hid (I26.out.below (balloc Wc (.cells #[.int .i64 n] 3)))
            have I32 := Lib.hid (Ints.lit1 Wc n)
            generalize World.alloc Wc _ = Wn at T I26 I32 hHeld ⊢
            rename World => Wc
            have s7_7_21 : True := trivial))
  all_goals first
    | (clear s7_7_21
       refine wpAnyH_ready (rs := [16]) (by kernel_rfl) (by simp) (AllReadyH.cons (o := { dst := some 27, op := _, type := _, pos := _, after := _, guard := _ }) rfl (fun K hK => ?_) AllReadyH.nil)
       go_simp
       (go_at_call 20; (with_reducible refine (HN2.out _ _ I26.out).mono ?_); rintro x wn ⟨rfl, hb⟩; replace T := Lib.hid (T.out.keep hb); replace I32 := Lib.hid (I32.out.below hb); clear hb)
       try go_wp2_with fail
       refine hK.out _ _ (HS.out _ T.out) (fun hHeld => ?_)
       clear hK K
       try simp only [Act.put, List.setIfInBounds_toArray, List.set_cons_zero, List.set_cons_succ]
       rename World => Wc
       refine wpAnyH_take (i := 17) (oi := { dst := some 28, op := _, type := _, pos := _, after := _, guard := _ }) (v := .string (Str y2)) rfl (by kernel_rfl) (by kernel_rfl) (by kernel_rfl) (fun _ _ _ h => h) (Or.inl ⟨by rfl, ?_⟩) (by assumption) ?_
       · (intro w hSw; go_simp; try with_reducible rfl)
       try simp only [Act.put, List.setIfInBounds_toArray, List.set_cons_zero, List.set_cons_succ]
       have s8_7_21 : True := trivial)
    | (clear s8_7
       refine wpAnyH_ready (rs := [21]) (by kernel_rfl) (by simp) (AllReadyH.cons (o := { dst := some 32, op := _, type := _, pos := _, after := _, guard := _ }) rfl (fun K hK => ?_) AllReadyH.nil)
       go_simp
       refine hK.out _ _ (HS.out _ (Lib.hid (T.out.keep (balloc Wc (.cells #[.int .i64 n] 3)))).out) (fun hHeld => ?_)
       clear hK K
       try simp only [Act.put, List.setIfInBounds_toArray, List.set_cons_zero, List.set_cons_succ]
       replace T := Lib.hid (T.out.keep (balloc Wc (.cells #[.int .i64 n] 3)))
       have I32 := Lib.hid (Ints.lit1 Wc n)
       generalize World.alloc Wc _ = Wn at T I32 hHeld ⊢
       rename World => Wc
       have s8_7_21 : True := trivial)
  all_goals (
    clear s8_7_21
    refine wpAnyH_ready (rs := [22]) (by kernel_rfl) (by simp) (AllReadyH.cons (o := { dst := some 33, op := _, type := _, pos := _, after := _, guard := _ }) rfl (fun K hK => ?_) AllReadyH.nil)
    go_simp
    (go_at_call 20; (with_reducible refine (HN3.out _ _ I32.out).mono ?_); rintro x wn ⟨rfl, hb⟩; replace T := Lib.hid (T.out.keep hb); clear hb)
    try go_wp2_with fail
    refine hK.out _ _ (HS.out _ T.out) (fun hHeld => ?_)
    clear hK K
    try simp only [Act.put, List.setIfInBounds_toArray, List.set_cons_zero, List.set_cons_succ]
    rename World => Wc
    refine wpAnyH_take (i := 23) (oi := { dst := some 34, op := _, type := _, pos := _, after := _, guard := _ }) (v := .string (Str y3)) rfl (by kernel_rfl) (by kernel_rfl) (by kernel_rfl) (fun _ _ _ h => h) (Or.inl ⟨by rfl, ?_⟩) (by assumption) ?_
    · (intro w hSw; go_simp; try with_reducible rfl)
    try simp only [Act.put, List.setIfInBounds_toArray, List.set_cons_zero, List.set_cons_succ]
    have s9_7_21 : True := trivial)
  all_goals (
    clear s9_7_21
    refine wpAnyH_ready (rs := [26]) (by kernel_rfl) (by simp) (AllReadyH.cons (o := { dst := some 37, op := _, type := _, pos := _, after := _, guard := _ }) rfl (fun K hK => ?_) AllReadyH.nil)
    go_simp
    (go_at_call 63; (with_reducible refine (HA2.out _ T.out).mono ?_); rintro x wn ⟨rfl, hb⟩; replace T := Lib.hid (T.out.keep hb); clear hb)
    try go_wp2_with fail
    refine hK.out _ _ (HS.out _ T.out) (fun hHeld => ?_)
    clear hK K
    try simp only [Act.put, List.setIfInBounds_toArray, List.set_cons_zero, List.set_cons_succ]
    rename World => Wc
    refine wpAnyH_take (i := 27) (oi := { dst := some 38, op := _, type := _, pos := _, after := _, guard := _ }) (v := .string (Str y4)) rfl (by kernel_rfl) (by kernel_rfl) (by kernel_rfl) (fun _ _ _ h => h) (Or.inl ⟨by rfl, ?_⟩) (by assumption) ?_
    · (intro w hSw; go_simp; try with_reducible rfl)
    try simp only [Act.put, List.setIfInBounds_toArray, List.set_cons_zero, List.set_cons_succ]
    refine wpAnyH_take (i := 28) (oi := { dst := some 2, op := _, type := _, pos := _, after := _, guard := _ }) (v := .string (Str y4)) rfl (by kernel_rfl) (by kernel_rfl) (by kernel_rfl) (fun _ _ _ h => h) (Or.inl ⟨by rfl, ?_⟩) (by assumption) ?_
    · (intro w hSw; go_simp; try with_reducible rfl)
    try simp only [Act.put, List.setIfInBounds_toArray, List.set_cons_zero, List.set_cons_succ]
    have s10_7_21 : True := trivial)
  all_goals (
    clear s10_7_21
    refine wpAnyH_done (by kernel_rfl) ?_ _
    go_wp2
    go_ret
    exact ⟨rfl, T.out.2⟩)
end Go.Proofs.YtgpccgcppbdlpaaGreat
