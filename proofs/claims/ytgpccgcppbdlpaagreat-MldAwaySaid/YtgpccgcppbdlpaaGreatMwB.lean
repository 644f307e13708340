/-
  The walk of the law MldAway.
-/
import Derived.Test.YtgpccgcppbdlpaaGreatMwA
namespace Go.Proofs.YtgpccgcppbdlpaaGreat
open Go.RowKit
set_option linter.unusedVariables false
set_option linter.unusedSimpArgs false
attribute [local go_sem ↓] ld_addr st_addr bld_addr ld_tk st_tk bld_tk
attribute [local go_sem] ldr_addr str_addr ldr_tk str_tk row?_drew_eq

/-- What is left behind the law's first lines. -/
def AQ (w W : World) (L : List Value) (T : TK) (f g o : AD) (p3 p4 p5 p6 : Value) : Prop := ∃ (m3 m4 m5 m6 : Nat) (u r : Value), p3 = .pointer (some ⟨m3, 0, none⟩) ∧ p4 = .pointer (some ⟨m4, 0, none⟩) ∧ p5 = .pointer (some ⟨m5, 0, none⟩) ∧ p6 = .pointer (some ⟨m6, 0, none⟩) ∧ AT w W L m3 m4 m5 m6 T u r (adC f) (adC g) (adC o)
set_option maxRecDepth 100000 in
set_option maxHeartbeats 32000000 in
theorem maway (t : TK) (us ur : Value) (f g o : AD) (w : World) (hok : t.ok) (ha : Ads w us t.src) (hr : Rcs w ur t.rcs) (hf : adOk f) (hg : adOk g) (ho : adOk o) :
    Calls Tryz.prog 5 #[.agg (awC t us ur f g o).toArray] w fun x w' => x = .returned (.bool true) ∧ Below w.heap.size w w' := by
  obtain ⟨T, hT⟩ : ∃ T, T = fewT t := ⟨_, rfl⟩
  have hkT : T.ok := by rw [hT]; exact fewT_ok hok
  have hlT : T.rcs.length ≤ 6 := by rw [hT]; exact fewT_len t
  have HOT := Lib.hid hkT.1
  have HS0 := Lib.hid (AS.start w (awC t us ur f g o))
  have HKS := Lib.hid (fun W p3 p4 p5 p6 (h : AS w W (awC t us ur f g o) p3 p4 p5 p6) => aws_of h.bx hok.1 hf hg ho)
  have HKT := Lib.hid (fun W m3 m4 m5 m6 T u r A4 A5 A6 (h : AT w W (awC t us ur f g o) m3 m4 m5 m6 T u r A4 A5 A6) => aws_of h.bx hok.1 hf hg ho)
  unfold AWS at HKS HKT
  have HBL := Lib.hid (fun W p3 p4 p5 p6 (h : AS w W (awC t us ur f g o) p3 p4 p5 p6) => h.bl)
  have HFR := Lib.hid (fun W m p4 p5 p6 (h : AS w W (awC t us ur f g o) (some m) p4 p5 p6) => show free? W m 0 26 = true from obj_free (h.h3 m rfl).2 (by simp))
  have HFEW : Hid (∀ W, Below w.heap.size w W → Calls Tryz.prog 6 #[.agg (tkC t us ur).toArray] W fun x w' => ∃ u r, x = .returned (.agg (tkC T u r).toArray) ∧ Below W.heap.size W w' ∧ AdsN W.heap.size w' u T.src ∧ RcN W.heap.size w' r T.rcs) := Lib.hid fun W h => by
    rw [hT]; exact lfewN_any t us ur W hok.1 (ha.below h) (hr.below h)
  have HFT : Hid (∀ (W : World) (u r : Value), AdsT W u T.src → RcT W r T.rcs → fok (tkC T u r).toArray 26 = true) := Lib.hid fun W u r h1 h2 => fok_tk hkT.1 h1.1.one h2.rcs.one
  have HF4 := Lib.hid hf
  have HF5 := Lib.hid hg
  have HF6 := Lib.hid ho
  have hq4 : fok (adC f).toArray 17 = true := fok_addr _ _ hf
  have hq5 : fok (adC g).toArray 17 = true := fok_addr _ _ hg
  have hq6 : fok (adC o).toArray 17 = true := fok_addr _ _ ho
  have HL := Lib.hid (fun W => lives9_any W)
  have HGD := Lib.hid (fun W u r h1 h2 => rgood9_any T u r W hkT h1 h2 (by omega))
  have HY : Hid (good9 T = true → ∃ (S : List UInt8) (R : TK × Int), (∀ W u r, Ads W u T.src → Rcs W r T.rcs → Calls Tryz.prog 12 #[.agg (tkC T u r).toArray, .agg (adC (vx f)).toArray, .agg (adC (vx g)).toArray] W fun x w' => x = .returned (.string (Str S)) ∧ Below W.heap.size W w') ∧
      (∀ W, Calls Tryz.prog 11 #[.string (Str S), .agg (adC (vx f)).toArray, .agg (adC (vx o)).toArray] W fun x w' => ∃ us ur, x = .returned (.tuple #[.agg (tkC R.1 us ur).toArray, .int .i64 R.2]) ∧ Below W.heap.size W w' ∧ adOk R.1.g ∧ AdsT w' us R.1.src ∧ RcT w' ur R.1.rcs) ∧
      (∀ W, Calls Tryz.prog 16 #[.string (Str S), .agg (adC (vx f)).toArray, .agg (adC (vx o)).toArray] W fun x w' => ∃ us ur, x = .returned (.tuple #[.agg (tkC R.1 us ur).toArray, .int .i64 R.2]) ∧ Below W.heap.size W w' ∧ adOk R.1.g ∧ AdsT w' us R.1.src ∧ RcT w' ur R.1.rcs) ∧ (R.2 = 4 ∨ R.2 = 0)) := Lib.hid fun hgd => by
    have hSl := wrtM_le (psM (vx f) (vx g) (4 + (restM T).length)) T hkT hgd
    have hPl := psM_length (vx_ok hf) (vx_ok hg) (4 + (restM T).length)
    have hrw := read_wrtM (psM (vx f) (vx g) (4 + (restM T).length)) (by rw [hPl]) T hkT hgd
    refine ⟨wrtM (psM (vx f) (vx g) (4 + (restM T).length)) T, readM (psM (vx f) (vx o) (wrtM (psM (vx f) (vx g) (4 + (restM T).length)) T).length) (wrtM (psM (vx f) (vx g) (4 + (restM T).length)) T), fun W u r h1 h2 => rwrite9_any (vx f) (vx g) (vx_ok hf) (vx_ok hg) rfl T u r W hkT h1 h2 hgd, fun W => ?_, fun W => ?_, ?_⟩
    · have := read9_any (vx f) (vx o) (vx_ok hf) (vx_ok ho) _ hSl W
      unfold ReadV at this
      have hrd : ∀ s, rd9 (vx f) (vx o) s = readM (psM (vx f) (vx o) s.length) s := fun s => rfl
      rw [hrd] at this
      exact this
    · have := rread9_any (vx f) (vx o) (vx_ok hf) (vx_ok ho) rfl _ hSl W
      unfold ReadM at this
      exact this
    · rcases readM_other _ (psM (vx f) (vx o) (wrtM (psM (vx f) (vx g) (4 + (restM T).length)) T).length) _ T hrw with h | h
      · exact Or.inl h
      · right; rw [h]
  have HOK := Lib.hid hkT
  clear hT hlT hkT hok ha hr hf hg ho
  go_enter Tryz.func5, Tryz.ntmps5
  go_upto_region 1 with (fail)
  generalize w.alloc (.cells (awC t us ur f g o).toArray 44) = W at HS0 ⊢
  go_cut [3, 4, 5, 6] from 7 (fun p3 p4 p5 p6 wr => AQ w wr (awC t us ur f g o) T f g o p3 p4 p5 p6)
  case first =>
    refine wp_region_held_drew (S := fun W => row? W w.heap.size 0 26 = some (tkC t us ur) ∧ row? W w.heap.size 26 17 = some (adC f) ∧ row? W w.heap.size 43 17 = some (adC g) ∧ row? W w.heap.size 60 17 = some (adC o)) (by kernel_rfl) (HKS.out _ _ _ _ _ (HS0.out.below ⟨rfl, rfl, rfl, Nat.le_refl _, fun _ _ => rfl⟩)) (fun hHeld => ?_)
    have T : Hid (AS w W.drew (awC t us ur f g o) none none none none) := Lib.hid (HS0.out.below ⟨rfl, rfl, rfl, Nat.le_refl _, fun _ _ => rfl⟩)
    clear HS0
    generalize World.drew W = Wc at T hHeld ⊢
    refine wpAnyH_take (i := 0) (oi := { dst := some 12, op := _, type := _, pos := _, after := _, guard := _ }) (v := ?v0) rfl (by kernel_rfl) (by kernel_rfl) (by kernel_rfl) (fun _ _ _ h => h) (Or.inl ⟨by rfl, ?y0⟩) (by assumption) ?r0
    case y0 => (intro ws hSw; obtain ⟨s1, s2, s3, s4⟩ := hSw; go_simp; try with_reducible rfl)
    try simp only [Act.put, List.setIfInBounds_toArray, List.set_cons_zero, List.set_cons_succ]
    refine wpAnyH_take (i := 1) (oi := { dst := some 13, op := _, type := _, pos := _, after := _, guard := _ }) (v := ?v1) rfl (by kernel_rfl) (by kernel_rfl) (by kernel_rfl) (fun _ _ _ h => h) (Or.inl ⟨by rfl, ?y1⟩) (by assumption) ?r1
    case y1 => (intro ws hSw; obtain ⟨s1, s2, s3, s4⟩ := hSw; go_simp; try with_reducible rfl)
    try simp only [Act.put, List.setIfInBounds_toArray, List.set_cons_zero, List.set_cons_succ]
    refine wpAnyH_take (i := 3) (oi := { dst := some 15, op := _, type := _, pos := _, after := _, guard := _ }) (v := ?v2) rfl (by kernel_rfl) (by kernel_rfl) (by kernel_rfl) (fun _ _ _ h => h) (Or.inl ⟨by rfl, ?y2⟩) (by assumption) ?r2
    case y2 => (intro ws hSw; obtain ⟨s1, s2, s3, s4⟩ := hSw; go_simp; try with_reducible rfl)
    try simp only [Act.put, List.setIfInBounds_toArray, List.set_cons_zero, List.set_cons_succ]
    refine wpAnyH_take (i := 4) (oi := { dst := some 16, op := _, type := _, pos := _, after := _, guard := _ }) (v := ?v3) rfl (by kernel_rfl) (by kernel_rfl) (by kernel_rfl) (fun _ _ _ h => h) (Or.inl ⟨by rfl, ?y3⟩) (by assumption) ?r3
    case y3 => (intro ws hSw; obtain ⟨s1, s2, s3, s4⟩ := hSw; go_simp; try with_reducible rfl)
    try simp only [Act.put, List.setIfInBounds_toArray, List.set_cons_zero, List.set_cons_succ]
    refine wpAnyH_take (i := 5) (oi := { dst := some 17, op := _, type := _, pos := _, after := _, guard := _ }) (v := ?v4) rfl (by kernel_rfl) (by kernel_rfl) (by kernel_rfl) (fun _ _ _ h => h) (Or.inl ⟨by rfl, ?y4⟩) (by assumption) ?r4
    case y4 => (intro ws hSw; obtain ⟨s1, s2, s3, s4⟩ := hSw; go_simp; try with_reducible rfl)
    try simp only [Act.put, List.setIfInBounds_toArray, List.set_cons_zero, List.set_cons_succ]
    refine wpAnyH_take (i := 6) (oi := { dst := some 18, op := _, type := _, pos := _, after := _, guard := _ }) (v := ?v5) rfl (by kernel_rfl) (by kernel_rfl) (by kernel_rfl) (fun _ _ _ h => h) (Or.inl ⟨by rfl, ?y5⟩) (by assumption) ?r5
    case y5 => (intro ws hSw; obtain ⟨s1, s2, s3, s4⟩ := hSw; go_simp; try with_reducible rfl)
    try simp only [Act.put, List.setIfInBounds_toArray, List.set_cons_zero, List.set_cons_succ]
    refine wpAnyH_take (i := 7) (oi := { dst := some 19, op := _, type := _, pos := _, after := _, guard := _ }) (v := ?v6) rfl (by kernel_rfl) (by kernel_rfl) (by kernel_rfl) (fun _ _ _ h => h) (Or.inl ⟨by rfl, ?y6⟩) (by assumption) ?r6
    case y6 => (intro ws hSw; obtain ⟨s1, s2, s3, s4⟩ := hSw; go_simp; try with_reducible rfl)
    try simp only [Act.put, List.setIfInBounds_toArray, List.set_cons_zero, List.set_cons_succ]
    refine wpAnyH_take (i := 8) (oi := { dst := some 20, op := _, type := _, pos := _, after := _, guard := _ }) (v := ?v7) rfl (by kernel_rfl) (by kernel_rfl) (by kernel_rfl) (fun _ _ _ h => h) (Or.inl ⟨by rfl, ?y7⟩) (by assumption) ?r7
    case y7 => (intro ws hSw; obtain ⟨s1, s2, s3, s4⟩ := hSw; go_simp; try with_reducible rfl)
    try simp only [Act.put, List.setIfInBounds_toArray, List.set_cons_zero, List.set_cons_succ]
    refine wpAnyH_ready (rs := [2, 9, 10, 11, 12]) (by kernel_rfl) (by simp) (AllReadyH.cons (o := { dst := some 14, op := _, type := _, pos := _, after := _, guard := _ }) rfl (fun K hK => (fun (mk2 : True) => ?_) trivial) (AllReadyH.cons (o := { dst := some 3, op := _, type := _, pos := _, after := _, guard := _ }) rfl (fun K hK => (fun (mk3 : True) => ?_) trivial) (AllReadyH.cons (o := { dst := some 4, op := _, type := _, pos := _, after := _, guard := _ }) rfl (fun K hK => (fun (mk4 : True) => ?_) trivial) (AllReadyH.cons (o := { dst := some 5, op := _, type := _, pos := _, after := _, guard := _ }) rfl (fun K hK => (fun (mk5 : True) => ?_) trivial) (AllReadyH.cons (o := { dst := some 6, op := _, type := _, pos := _, after := _, guard := _ }) rfl (fun K hK => (fun (mk6 : True) => ?_) trivial) AllReadyH.nil)))))
    all_goals first
      | (clear mk2
         go_simp
         (go_at_call 6; (with_reducible refine (HFEW.out _ (HBL.out _ _ _ _ _ T.out)).mono ?_); rintro x wf ⟨u9, r9, rfl, hb, hs9, hr9⟩; obtain ⟨pu, cu, eu, _, _⟩ := hs9.1.len; obtain ⟨pr, cr, er, _, _⟩ := hr9.rcs.len; subst eu er; have HF := Lib.hid (FO.few hs9 hr9 T.out.pm); replace T := Lib.hid (T.out.below hb); have hft := HFT.out _ _ _ hs9.t hr9.t; clear hb hs9 hr9)
         try go_wp2_with fail
         refine hK.out _ _ (HKS.out _ _ _ _ _ T.out) (fun hHeld => ?_)
         clear hK K
         try simp only [Act.put, List.setIfInBounds_toArray, List.set_cons_zero, List.set_cons_succ]
         rename World => Wc)
      | (clear mk3
         go_simp
         refine hK.out _ _ (HKS.out _ _ _ _ _ T.out.a3) (fun hHeld => ?_)
         clear hK K
         try simp only [Act.put, List.setIfInBounds_toArray, List.set_cons_zero, List.set_cons_succ]
         replace T := Lib.hid T.out.a3
         generalize World.alloc Wc _ = Wn at T hHeld ⊢
         generalize Wc.heap.size = m3 at T ⊢
         rename World => Wc)
      | (clear mk4
         go_simp
         refine hK.out _ _ (HKS.out _ _ _ _ _ T.out.a4) (fun hHeld => ?_)
         clear hK K
         try simp only [Act.put, List.setIfInBounds_toArray, List.set_cons_zero, List.set_cons_succ]
         replace T := Lib.hid T.out.a4
         generalize World.alloc Wc _ = Wn at T hHeld ⊢
         generalize Wc.heap.size = m4 at T ⊢
         rename World => Wc)
      | (clear mk5
         go_simp
         refine hK.out _ _ (HKS.out _ _ _ _ _ T.out.a5) (fun hHeld => ?_)
         clear hK K
         try simp only [Act.put, List.setIfInBounds_toArray, List.set_cons_zero, List.set_cons_succ]
         replace T := Lib.hid T.out.a5
         generalize World.alloc Wc _ = Wn at T hHeld ⊢
         generalize Wc.heap.size = m5 at T ⊢
         rename World => Wc)
      | (clear mk6
         go_simp
         refine hK.out _ _ (HKS.out _ _ _ _ _ T.out.a6) (fun hHeld => ?_)
         clear hK K
         try simp only [Act.put, List.setIfInBounds_toArray, List.set_cons_zero, List.set_cons_succ]
         replace T := Lib.hid T.out.a6
         generalize World.alloc Wc _ = Wn at T hHeld ⊢
         generalize Wc.heap.size = m6 at T ⊢
         rename World => Wc)
    all_goals first
      | (have tt := (show AS _ _ _ none none none none from T.out)
         have th := HF.out
         clear tt th
         refine wpAnyH_ready (rs := [9, 10, 11, 12]) (by kernel_rfl) (by simp) (AllReadyH.cons (o := { dst := some 3, op := _, type := _, pos := _, after := _, guard := _ }) rfl (fun K hK => (fun (mk3 : True) => ?_) trivial) (AllReadyH.cons (o := { dst := some 4, op := _, type := _, pos := _, after := _, guard := _ }) rfl (fun K hK => (fun (mk4 : True) => ?_) trivial) (AllReadyH.cons (o := { dst := some 5, op := _, type := _, pos := _, after := _, guard := _ }) rfl (fun K hK => (fun (mk5 : True) => ?_) trivial) (AllReadyH.cons (o := { dst := some 6, op := _, type := _, pos := _, after := _, guard := _ }) rfl (fun K hK => (fun (mk6 : True) => ?_) trivial) AllReadyH.nil))))
         all_goals first
           | (clear mk3
              go_simp
              refine hK.out _ _ (HKS.out _ _ _ _ _ T.out.a3) (fun hHeld => ?_)
              clear hK K
              try simp only [Act.put, List.setIfInBounds_toArray, List.set_cons_zero, List.set_cons_succ]
              replace T := Lib.hid T.out.a3
              replace HF := Lib.hid (HF.out.below (bal9 Wc (.cells #[.bool false, .int .i64 0, .int .i64 0, .int .i64 0, .bool false, .int .u8 0, .int .u8 0, .int .u8 0, .int .u8 0, .int .u8 0, .int .u8 0, .int .u8 0, .int .u8 0, .int .u8 0, .int .u8 0, .int .u8 0, .int .u8 0, .int .u8 0, .int .u8 0, .int .u8 0, .int .u8 0, .bool false, .int .i64 0, .int .i64 0, .slice none 0 0, .slice none 0 0] 28)))
              generalize World.alloc Wc _ = Wn at T HF hHeld ⊢
              generalize Wc.heap.size = m3 at T HF ⊢
              rename World => Wc)
           | (clear mk4
              go_simp
              refine hK.out _ _ (HKS.out _ _ _ _ _ T.out.a4) (fun hHeld => ?_)
              clear hK K
              try simp only [Act.put, List.setIfInBounds_toArray, List.set_cons_zero, List.set_cons_succ]
              replace T := Lib.hid T.out.a4
              replace HF := Lib.hid (HF.out.n4 (.cells #[.bool false, .int .u8 0, .int .u8 0, .int .u8 0, .int .u8 0, .int .u8 0, .int .u8 0, .int .u8 0, .int .u8 0, .int .u8 0, .int .u8 0, .int .u8 0, .int .u8 0, .int .u8 0, .int .u8 0, .int .u8 0, .int .u8 0] 24))
              generalize World.alloc Wc _ = Wn at T HF hHeld ⊢
              generalize Wc.heap.size = m4 at T HF ⊢
              rename World => Wc)
           | (clear mk5
              go_simp
              refine hK.out _ _ (HKS.out _ _ _ _ _ T.out.a5) (fun hHeld => ?_)
              clear hK K
              try simp only [Act.put, List.setIfInBounds_toArray, List.set_cons_zero, List.set_cons_succ]
              replace T := Lib.hid T.out.a5
              replace HF := Lib.hid (HF.out.n5 (.cells #[.bool false, .int .u8 0, .int .u8 0, .int .u8 0, .int .u8 0, .int .u8 0, .int .u8 0, .int .u8 0, .int .u8 0, .int .u8 0, .int .u8 0, .int .u8 0, .int .u8 0, .int .u8 0, .int .u8 0, .int .u8 0, .int .u8 0] 24))
              generalize World.alloc Wc _ = Wn at T HF hHeld ⊢
              generalize Wc.heap.size = m5 at T HF ⊢
              rename World => Wc)
           | (clear mk6
              go_simp
              refine hK.out _ _ (HKS.out _ _ _ _ _ T.out.a6) (fun hHeld => ?_)
              clear hK K
              try simp only [Act.put, List.setIfInBounds_toArray, List.set_cons_zero, List.set_cons_succ]
              replace T := Lib.hid T.out.a6
              replace HF := Lib.hid (HF.out.n6 (.cells #[.bool false, .int .u8 0, .int .u8 0, .int .u8 0, .int .u8 0, .int .u8 0, .int .u8 0, .int .u8 0, .int .u8 0, .int .u8 0, .int .u8 0, .int .u8 0, .int .u8 0, .int .u8 0, .int .u8 0, .int .u8 0, .int .u8 0] 24))
              generalize World.alloc Wc _ = Wn at T HF hHeld ⊢
              generalize Wc.heap.size = m6 at T HF ⊢
              rename World => Wc))
      | (have tt := (show AS _ _ _ (some _) none none none from T.out)
         clear tt
         refine wpAnyH_ready (rs := [2, 10, 11, 12]) (by kernel_rfl) (by simp) (AllReadyH.cons (o := { dst := some 14, op := _, type := _, pos := _, after := _, guard := _ }) rfl (fun K hK => (fun (mk2 : True) => ?_) trivial) (AllReadyH.cons (o := { dst := some 4, op := _, type := _, pos := _, after := _, guard := _ }) rfl (fun K hK => (fun (mk4 : True) => ?_) trivial) (AllReadyH.cons (o := { dst := some 5, op := _, type := _, pos := _, after := _, guard := _ }) rfl (fun K hK => (fun (mk5 : True) => ?_) trivial) (AllReadyH.cons (o := { dst := some 6, op := _, type := _, pos := _, after := _, guard := _ }) rfl (fun K hK => (fun (mk6 : True) => ?_) trivial) AllReadyH.nil))))
         all_goals first
           | (clear mk2
              go_simp
              (go_at_call 6; (with_reducible refine (HFEW.out _ (HBL.out _ _ _ _ _ T.out)).mono ?_); rintro x wf ⟨u9, r9, rfl, hb, hs9, hr9⟩; obtain ⟨pu, cu, eu, _, _⟩ := hs9.1.len; obtain ⟨pr, cr, er, _, _⟩ := hr9.rcs.len; subst eu er; have HF := Lib.hid (FO.few hs9 hr9 T.out.pm); replace T := Lib.hid (T.out.below hb); have hft := HFT.out _ _ _ hs9.t hr9.t; clear hb hs9 hr9)
              try go_wp2_with fail
              refine hK.out _ _ (HKS.out _ _ _ _ _ T.out) (fun hHeld => ?_)
              clear hK K
              try simp only [Act.put, List.setIfInBounds_toArray, List.set_cons_zero, List.set_cons_succ]
              rename World => Wc)
           | (clear mk4
              go_simp
              refine hK.out _ _ (HKS.out _ _ _ _ _ T.out.a4) (fun hHeld => ?_)
              clear hK K
              try simp only [Act.put, List.setIfInBounds_toArray, List.set_cons_zero, List.set_cons_succ]
              replace T := Lib.hid T.out.a4
              generalize World.alloc Wc _ = Wn at T hHeld ⊢
              generalize Wc.heap.size = m4 at T ⊢
              rename World => Wc)
           | (clear mk5
              go_simp
              refine hK.out _ _ (HKS.out _ _ _ _ _ T.out.a5) (fun hHeld => ?_)
              clear hK K
              try simp only [Act.put, List.setIfInBounds_toArray, List.set_cons_zero, List.set_cons_succ]
              replace T := Lib.hid T.out.a5
              generalize World.alloc Wc _ = Wn at T hHeld ⊢
              generalize Wc.heap.size = m5 at T ⊢
              rename World => Wc)
           | (clear mk6
              go_simp
              refine hK.out _ _ (HKS.out _ _ _ _ _ T.out.a6) (fun hHeld => ?_)
              clear hK K
              try simp only [Act.put, List.setIfInBounds_toArray, List.set_cons_zero, List.set_cons_succ]
              replace T := Lib.hid T.out.a6
              generalize World.alloc Wc _ = Wn at T hHeld ⊢
              generalize Wc.heap.size = m6 at T ⊢
              rename World => Wc))
      | (have tt := (show AS _ _ _ none (some _) none none from T.out)
         clear tt
         refine wpAnyH_ready (rs := [2, 9, 11, 12]) (by kernel_rfl) (by simp) (AllReadyH.cons (o := { dst := some 14, op := _, type := _, pos := _, after := _, guard := _ }) rfl (fun K hK => (fun (mk2 : True) => ?_) trivial) (AllReadyH.cons (o := { dst := some 3, op := _, type := _, pos := _, after := _, guard := _ }) rfl (fun K hK => (fun (mk3 : True) => ?_) trivial) (AllReadyH.cons (o := { dst := some 5, op := _, type := _, pos := _, after := _, guard := _ }) rfl (fun K hK => (fun (mk5 : True) => ?_) trivial) (AllReadyH.cons (o := { dst := some 6, op := _, type := _, pos := _, after := _, guard := _ }) rfl (fun K hK => (fun (mk6 : True) => ?_) trivial) AllReadyH.nil))))
         all_goals first
           | (clear mk2
              go_simp
              (go_at_call 6; (with_reducible refine (HFEW.out _ (HBL.out _ _ _ _ _ T.out)).mono ?_); rintro x wf ⟨u9, r9, rfl, hb, hs9, hr9⟩; obtain ⟨pu, cu, eu, _, _⟩ := hs9.1.len; obtain ⟨pr, cr, er, _, _⟩ := hr9.rcs.len; subst eu er; have HF := Lib.hid (FO.few hs9 hr9 T.out.pm); replace T := Lib.hid (T.out.below hb); have hft := HFT.out _ _ _ hs9.t hr9.t; clear hb hs9 hr9)
              try go_wp2_with fail
              refine hK.out _ _ (HKS.out _ _ _ _ _ T.out) (fun hHeld => ?_)
              clear hK K
              try simp only [Act.put, List.setIfInBounds_toArray, List.set_cons_zero, List.set_cons_succ]
              rename World => Wc)
           | (clear mk3
              go_simp
              refine hK.out _ _ (HKS.out _ _ _ _ _ T.out.a3) (fun hHeld => ?_)
              clear hK K
              try simp only [Act.put, List.setIfInBounds_toArray, List.set_cons_zero, List.set_cons_succ]
              replace T := Lib.hid T.out.a3
              generalize World.alloc Wc _ = Wn at T hHeld ⊢
              generalize Wc.heap.size = m3 at T ⊢
              rename World => Wc)
           | (clear mk5
              go_simp
              refine hK.out _ _ (HKS.out _ _ _ _ _ T.out.a5) (fun hHeld => ?_)
              clear hK K
              try simp only [Act.put, List.setIfInBounds_toArray, List.set_cons_zero, List.set_cons_succ]
              replace T := Lib.hid T.out.a5
              generalize World.alloc Wc _ = Wn at T hHeld ⊢
              generalize Wc.heap.size = m5 at T ⊢
              rename World => Wc)
           | (clear mk6
              go_simp
              refine hK.out _ _ (HKS.out _ _ _ _ _ T.out.a6) (fun hHeld => ?_)
              clear hK K
              try simp only [Act.put, List.setIfInBounds_toArray, List.set_cons_zero, List.set_cons_succ]
              replace T := Lib.hid T.out.a6
              generalize World.alloc Wc _ = Wn at T hHeld ⊢
              generalize Wc.heap.size = m6 at T ⊢
              rename World => Wc))
      | (have tt := (show AS _ _ _ none none (some _) none from T.out)
         clear tt
         refine wpAnyH_ready (rs := [2, 9, 10, 12]) (by kernel_rfl) (by simp) (AllReadyH.cons (o := { dst := some 14, op := _, type := _, pos := _, after := _, guard := _ }) rfl (fun K hK => (fun (mk2 : True) => ?_) trivial) (AllReadyH.cons (o := { dst := some 3, op := _, type := _, pos := _, after := _, guard := _ }) rfl (fun K hK => (fun (mk3 : True) => ?_) trivial) (AllReadyH.cons (o := { dst := some 4, op := _, type := _, pos := _, after := _, guard := _ }) rfl (fun K hK => (fun (mk4 : True) => ?_) trivial) (AllReadyH.cons (o := { dst := some 6, op := _, type := _, pos := _, after := _, guard := _ }) rfl (fun K hK => (fun (mk6 : True) => ?_) trivial) AllReadyH.nil))))
         all_goals first
           | (clear mk2
              go_simp
              (go_at_call 6; (with_reducible refine (HFEW.out _ (HBL.out _ _ _ _ _ T.out)).mono ?_); rintro x wf ⟨u9, r9, rfl, hb, hs9, hr9⟩; obtain ⟨pu, cu, eu, _, _⟩ := hs9.1.len; obtain ⟨pr, cr, er, _, _⟩ := hr9.rcs.len; subst eu er; have HF := Lib.hid (FO.few hs9 hr9 T.out.pm); replace T := Lib.hid (T.out.below hb); have hft := HFT.out _ _ _ hs9.t hr9.t; clear hb hs9 hr9)
              try go_wp2_with fail
              refine hK.out _ _ (HKS.out _ _ _ _ _ T.out) (fun hHeld => ?_)
              clear hK K
              try simp only [Act.put, List.setIfInBounds_toArray, List.set_cons_zero, List.set_cons_succ]
              rename World => Wc)
           | (clear mk3
              go_simp
              refine hK.out _ _ (HKS.out _ _ _ _ _ T.out.a3) (fun hHeld => ?_)
              clear hK K
              try simp only [Act.put, List.setIfInBounds_toArray, List.set_cons_zero, List.set_cons_succ]
              replace T := Lib.hid T.out.a3
              generalize World.alloc Wc _ = Wn at T hHeld ⊢
              generalize Wc.heap.size = m3 at T ⊢
              rename World => Wc)
           | (clear mk4
              go_simp
              refine hK.out _ _ (HKS.out _ _ _ _ _ T.out.a4) (fun hHeld => ?_)
              clear hK K
              try simp only [Act.put, List.setIfInBounds_toArray, List.set_cons_zero, List.set_cons_succ]
              replace T := Lib.hid T.out.a4
              generalize World.alloc Wc _ = Wn at T hHeld ⊢
              generalize Wc.heap.size = m4 at T ⊢
              rename World => Wc)
           | (clear mk6
              go_simp
              refine hK.out _ _ (HKS.out _ _ _ _ _ T.out.a6) (fun hHeld => ?_)
              clear hK K
              try simp only [Act.put, List.setIfInBounds_toArray, List.set_cons_zero, List.set_cons_succ]
              replace T := Lib.hid T.out.a6
              generalize World.alloc Wc _ = Wn at T hHeld ⊢
              generalize Wc.heap.size = m6 at T ⊢
              rename World => Wc))
      | (have tt := (show AS _ _ _ none none none (some _) from T.out)
         clear tt
         refine wpAnyH_ready (rs := [2, 9, 10, 11]) (by kernel_rfl) (by simp) (AllReadyH.cons (o := { dst := some 14, op := _, type := _, pos := _, after := _, guard := _ }) rfl (fun K hK => (fun (mk2 : True) => ?_) trivial) (AllReadyH.cons (o := { dst := some 3, op := _, type := _, pos := _, after := _, guard := _ }) rfl (fun K hK => (fun (mk3 : True) => ?_) trivial) (AllReadyH.cons (o := { dst := some 4, op := _, type := _, pos := _, after := _, guard := _ }) rfl (fun K hK => (fun (mk4 : True) => ?_) trivial) (AllReadyH.cons (o := { dst := some 5, op := _, type := _, pos := _, after := _, guard := _ }) rfl (fun K hK => (fun (mk5 : True) => ?_) trivial) AllReadyH.nil))))
         all_goals first
           | (clear mk2
              go_simp
              (go_at_call 6; (with_reducible refine (HFEW.out _ (HBL.out _ _ _ _ _ T.out)).mono ?_); rintro x wf ⟨u9, r9, rfl, hb, hs9, hr9⟩; obtain ⟨pu, cu, eu, _, _⟩ := hs9.1.len; obtain ⟨pr, cr, er, _, _⟩ := hr9.rcs.len; subst eu er; have HF := Lib.hid (FO.few hs9 hr9 T.out.pm); replace T := Lib.hid (T.out.below hb); have hft := HFT.out _ _ _ hs9.t hr9.t; clear hb hs9 hr9)
              try go_wp2_with fail
              refine hK.out _ _ (HKS.out _ _ _ _ _ T.out) (fun hHeld => ?_)
              clear hK K
              try simp only [Act.put, List.setIfInBounds_toArray, List.set_cons_zero, List.set_cons_succ]
              rename World => Wc)
           | (clear mk3
              go_simp
              refine hK.out _ _ (HKS.out _ _ _ _ _ T.out.a3) (fun hHeld => ?_)
              clear hK K
              try simp only [Act.put, List.setIfInBounds_toArray, List.set_cons_zero, List.set_cons_succ]
              replace T := Lib.hid T.out.a3
              generalize World.alloc Wc _ = Wn at T hHeld ⊢
              generalize Wc.heap.size = m3 at T ⊢
              rename World => Wc)
           | (clear mk4
              go_simp
              refine hK.out _ _ (HKS.out _ _ _ _ _ T.out.a4) (fun hHeld => ?_)
              clear hK K
              try simp only [Act.put, List.setIfInBounds_toArray, List.set_cons_zero, List.set_cons_succ]
              replace T := Lib.hid T.out.a4
              generalize World.alloc Wc _ = Wn at T hHeld ⊢
              generalize Wc.heap.size = m4 at T ⊢
              rename World => Wc)
           | (clear mk5
              go_simp
              refine hK.out _ _ (HKS.out _ _ _ _ _ T.out.a5) (fun hHeld => ?_)
              clear hK K
              try simp only [Act.put, List.setIfInBounds_toArray, List.set_cons_zero, List.set_cons_succ]
              replace T := Lib.hid T.out.a5
              generalize World.alloc Wc _ = Wn at T hHeld ⊢
              generalize Wc.heap.size = m5 at T ⊢
              rename World => Wc))
    all_goals first
      | (have tt := (show AS _ _ _ (some _) none none none from T.out)
         have th := HF.out
         clear tt th
         refine wpAnyH_ready (rs := [10, 11, 12]) (by kernel_rfl) (by simp) (AllReadyH.cons (o := { dst := some 4, op := _, type := _, pos := _, after := _, guard := _ }) rfl (fun K hK => (fun (mk4 : True) => ?_) trivial) (AllReadyH.cons (o := { dst := some 5, op := _, type := _, pos := _, after := _, guard := _ }) rfl (fun K hK => (fun (mk5 : True) => ?_) trivial) (AllReadyH.cons (o := { dst := some 6, op := _, type := _, pos := _, after := _, guard := _ }) rfl (fun K hK => (fun (mk6 : True) => ?_) trivial) AllReadyH.nil)))
         all_goals first
           | (clear mk4
              go_simp
              refine hK.out _ _ (HKS.out _ _ _ _ _ T.out.a4) (fun hHeld => ?_)
              clear hK K
              try simp only [Act.put, List.setIfInBounds_toArray, List.set_cons_zero, List.set_cons_succ]
              replace T := Lib.hid T.out.a4
              replace HF := Lib.hid (HF.out.n4 (.cells #[.bool false, .int .u8 0, .int .u8 0, .int .u8 0, .int .u8 0, .int .u8 0, .int .u8 0, .int .u8 0, .int .u8 0, .int .u8 0, .int .u8 0, .int .u8 0, .int .u8 0, .int .u8 0, .int .u8 0, .int .u8 0, .int .u8 0] 24))
              generalize World.alloc Wc _ = Wn at T HF hHeld ⊢
              generalize Wc.heap.size = m4 at T HF ⊢
              rename World => Wc)
           | (clear mk5
              go_simp
              refine hK.out _ _ (HKS.out _ _ _ _ _ T.out.a5) (fun hHeld => ?_)
              clear hK K
              try simp only [Act.put, List.setIfInBounds_toArray, List.set_cons_zero, List.set_cons_succ]
              replace T := Lib.hid T.out.a5
              replace HF := Lib.hid (HF.out.n5 (.cells #[.bool false, .int .u8 0, .int .u8 0, .int .u8 0, .int .u8 0, .int .u8 0, .int .u8 0, .int .u8 0, .int .u8 0, .int .u8 0, .int .u8 0, .int .u8 0, .int .u8 0, .int .u8 0, .int .u8 0, .int .u8 0, .int .u8 0] 24))
              generalize World.alloc Wc _ = Wn at T HF hHeld ⊢
              generalize Wc.heap.size = m5 at T HF ⊢
              rename World => Wc)
           | (clear mk6
              go_simp
              refine hK.out _ _ (HKS.out _ _ _ _ _ T.out.a6) (fun hHeld => ?_)
              clear hK K
              try simp only [Act.put, List.setIfInBounds_toArray, List.set_cons_zero, List.set_cons_succ]
              replace T := Lib.hid T.out.a6
              replace HF := Lib.hid (HF.out.n6 (.cells #[.bool false, .int .u8 0, .int .u8 0, .int .u8 0, .int .u8 0, .int .u8 0, .int .u8 0, .int .u8 0, .int .u8 0, .int .u8 0, .int .u8 0, .int .u8 0, .int .u8 0, .int .u8 0, .int .u8 0, .int .u8 0, .int .u8 0] 24))
              generalize World.alloc Wc _ = Wn at T HF hHeld ⊢
              generalize Wc.heap.size = m6 at T HF ⊢
              rename World => Wc))
      | (have tt := (show AS _ _ _ none (some _) none none from T.out)
         have th := HF.out
         clear tt th
         refine wpAnyH_ready (rs := [9, 11, 12]) (by kernel_rfl) (by simp) (AllReadyH.cons (o := { dst := some 3, op := _, type := _, pos := _, after := _, guard := _ }) rfl (fun K hK => (fun (mk3 : True) => ?_) trivial) (AllReadyH.cons (o := { dst := some 5, op := _, type := _, pos := _, after := _, guard := _ }) rfl (fun K hK => (fun (mk5 : True) => ?_) trivial) (AllReadyH.cons (o := { dst := some 6, op := _, type := _, pos := _, after := _, guard := _ }) rfl (fun K hK => (fun (mk6 : True) => ?_) trivial) AllReadyH.nil)))
         all_goals first
           | (clear mk3
              go_simp
              refine hK.out _ _ (HKS.out _ _ _ _ _ T.out.a3) (fun hHeld => ?_)
              clear hK K
              try simp only [Act.put, List.setIfInBounds_toArray, List.set_cons_zero, List.set_cons_succ]
              replace T := Lib.hid T.out.a3
              replace HF := Lib.hid (HF.out.below (bal9 Wc (.cells #[.bool false, .int .i64 0, .int .i64 0, .int .i64 0, .bool false, .int .u8 0, .int .u8 0, .int .u8 0, .int .u8 0, .int .u8 0, .int .u8 0, .int .u8 0, .int .u8 0, .int .u8 0, .int .u8 0, .int .u8 0, .int .u8 0, .int .u8 0, .int .u8 0, .int .u8 0, .int .u8 0, .bool false, .int .i64 0, .int .i64 0, .slice none 0 0, .slice none 0 0] 28)))
              generalize World.alloc Wc _ = Wn at T HF hHeld ⊢
              generalize Wc.heap.size = m3 at T HF ⊢
              rename World => Wc)
           | (clear mk5
              go_simp
              refine hK.out _ _ (HKS.out _ _ _ _ _ T.out.a5) (fun hHeld => ?_)
              clear hK K
              try simp only [Act.put, List.setIfInBounds_toArray, List.set_cons_zero, List.set_cons_succ]
              replace T := Lib.hid T.out.a5
              replace HF := Lib.hid (HF.out.n5 (.cells #[.bool false, .int .u8 0, .int .u8 0, .int .u8 0, .int .u8 0, .int .u8 0, .int .u8 0, .int .u8 0, .int .u8 0, .int .u8 0, .int .u8 0, .int .u8 0, .int .u8 0, .int .u8 0, .int .u8 0, .int .u8 0, .int .u8 0] 24))
              generalize World.alloc Wc _ = Wn at T HF hHeld ⊢
              generalize Wc.heap.size = m5 at T HF ⊢
              rename World => Wc)
           | (clear mk6
              go_simp
              refine hK.out _ _ (HKS.out _ _ _ _ _ T.out.a6) (fun hHeld => ?_)
              clear hK K
              try simp only [Act.put, List.setIfInBounds_toArray, List.set_cons_zero, List.set_cons_succ]
              replace T := Lib.hid T.out.a6
              replace HF := Lib.hid (HF.out.n6 (.cells #[.bool false, .int .u8 0, .int .u8 0, .int .u8 0, .int .u8 0, .int .u8 0, .int .u8 0, .int .u8 0, .int .u8 0, .int .u8 0, .int .u8 0, .int .u8 0, .int .u8 0, .int .u8 0, .int .u8 0, .int .u8 0, .int .u8 0] 24))
              generalize World.alloc Wc _ = Wn at T HF hHeld ⊢
              generalize Wc.heap.size = m6 at T HF ⊢
              rename World => Wc))
      | (have tt := (show AS _ _ _ none none (some _) none from T.out)
         have th := HF.out
         clear tt th
         refine wpAnyH_ready (rs := [9, 10, 12]) (by kernel_rfl) (by simp) (AllReadyH.cons (o := { dst := some 3, op := _, type := _, pos := _, after := _, guard := _ }) rfl (fun K hK => (fun (mk3 : True) => ?_) trivial) (AllReadyH.cons (o := { dst := some 4, op := _, type := _, pos := _, after := _, guard := _ }) rfl (fun K hK => (fun (mk4 : True) => ?_) trivial) (AllReadyH.cons (o := { dst := some 6, op := _, type := _, pos := _, after := _, guard := _ }) rfl (fun K hK => (fun (mk6 : True) => ?_) trivial) AllReadyH.nil)))
         all_goals first
           | (clear mk3
              go_simp
              refine hK.out _ _ (HKS.out _ _ _ _ _ T.out.a3) (fun hHeld => ?_)
              clear hK K
              try simp only [Act.put, List.setIfInBounds_toArray, List.set_cons_zero, List.set_cons_succ]
              replace T := Lib.hid T.out.a3
              replace HF := Lib.hid (HF.out.below (bal9 Wc (.cells #[.bool false, .int .i64 0, .int .i64 0, .int .i64 0, .bool false, .int .u8 0, .int .u8 0, .int .u8 0, .int .u8 0, .int .u8 0, .int .u8 0, .int .u8 0, .int .u8 0, .int .u8 0, .int .u8 0, .int .u8 0, .int .u8 0, .int .u8 0, .int .u8 0, .int .u8 0, .int .u8 0, .bool false, .int .i64 0, .int .i64 0, .slice none 0 0, .slice none 0 0] 28)))
              generalize World.alloc Wc _ = Wn at T HF hHeld ⊢
              generalize Wc.heap.size = m3 at T HF ⊢
              rename World => Wc)
           | (clear mk4
              go_simp
              refine hK.out _ _ (HKS.out _ _ _ _ _ T.out.a4) (fun hHeld => ?_)
              clear hK K
              try simp only [Act.put, List.setIfInBounds_toArray, List.set_cons_zero, List.set_cons_succ]
              replace T := Lib.hid T.out.a4
              replace HF := Lib.hid (HF.out.n4 (.cells #[.bool false, .int .u8 0, .int .u8 0, .int .u8 0, .int .u8 0, .int .u8 0, .int .u8 0, .int .u8 0, .int .u8 0, .int .u8 0, .int .u8 0, .int .u8 0, .int .u8 0, .int .u8 0, .int .u8 0, .int .u8 0, .int .u8 0] 24))
              generalize World.alloc Wc _ = Wn at T HF hHeld ⊢
              generalize Wc.heap.size = m4 at T HF ⊢
              rename World => Wc)
           | (clear mk6
              go_simp
              refine hK.out _ _ (HKS.out _ _ _ _ _ T.out.a6) (fun hHeld => ?_)
              clear hK K
              try simp only [Act.put, List.setIfInBounds_toArray, List.set_cons_zero, List.set_cons_succ]
              replace T := Lib.hid T.out.a6
              replace HF := Lib.hid (HF.out.n6 (.cells #[.bool false, .int .u8 0, .int .u8 0, .int .u8 0, .int .u8 0, .int .u8 0, .int .u8 0, .int .u8 0, .int .u8 0, .int .u8 0, .int .u8 0, .int .u8 0, .int .u8 0, .int .u8 0, .int .u8 0, .int .u8 0, .int .u8 0] 24))
              generalize World.alloc Wc _ = Wn at T HF hHeld ⊢
              generalize Wc.heap.size = m6 at T HF ⊢
              rename World => Wc))
      | (have tt := (show AS _ _ _ none none none (some _) from T.out)
         have th := HF.out
         clear tt th
         refine wpAnyH_ready (rs := [9, 10, 11]) (by kernel_rfl) (by simp) (AllReadyH.cons (o := { dst := some 3, op := _, type := _, pos := _, after := _, guard := _ }) rfl (fun K hK => (fun (mk3 : True) => ?_) trivial) (AllReadyH.cons (o := { dst := some 4, op := _, type := _, pos := _, after := _, guard := _ }) rfl (fun K hK => (fun (mk4 : True) => ?_) trivial) (AllReadyH.cons (o := { dst := some 5, op := _, type := _, pos := _, after := _, guard := _ }) rfl (fun K hK => (fun (mk5 : True) => ?_) trivial) AllReadyH.nil)))
         all_goals first
           | (clear mk3
              go_simp
              refine hK.out _ _ (HKS.out _ _ _ _ _ T.out.a3) (fun hHeld => ?_)
              clear hK K
              try simp only [Act.put, List.setIfInBounds_toArray, List.set_cons_zero, List.set_cons_succ]
              replace T := Lib.hid T.out.a3
              replace HF := Lib.hid (HF.out.below (bal9 Wc (.cells #[.bool false, .int .i64 0, .int .i64 0, .int .i64 0, .bool false, .int .u8 0, .int .u8 0, .int .u8 0, .int .u8 0, .int .u8 0, .int .u8 0, .int .u8 0, .int .u8 0, .int .u8 0, .int .u8 0, .int .u8 0, .int .u8 0, .int .u8 0, .int .u8 0, .int .u8 0, .int .u8 0, .bool false, .int .i64 0, .int .i64 0, .slice none 0 0, .slice none 0 0] 28)))
              generalize World.alloc Wc _ = Wn at T HF hHeld ⊢
              generalize Wc.heap.size = m3 at T HF ⊢
              rename World => Wc)
           | (clear mk4
              go_simp
              refine hK.out _ _ (HKS.out _ _ _ _ _ T.out.a4) (fun hHeld => ?_)
              clear hK K
              try simp only [Act.put, List.setIfInBounds_toArray, List.set_cons_zero, List.set_cons_succ]
              replace T := Lib.hid T.out.a4
              replace HF := Lib.hid (HF.out.n4 (.cells #[.bool false, .int .u8 0, .int .u8 0, .int .u8 0, .int .u8 0, .int .u8 0, .int .u8 0, .int .u8 0, .int .u8 0, .int .u8 0, .int .u8 0, .int .u8 0, .int .u8 0, .int .u8 0, .int .u8 0, .int .u8 0, .int .u8 0] 24))
              generalize World.alloc Wc _ = Wn at T HF hHeld ⊢
              generalize Wc.heap.size = m4 at T HF ⊢
              rename World => Wc)
           | (clear mk5
              go_simp
              refine hK.out _ _ (HKS.out _ _ _ _ _ T.out.a5) (fun hHeld => ?_)
              clear hK K
              try simp only [Act.put, List.setIfInBounds_toArray, List.set_cons_zero, List.set_cons_succ]
              replace T := Lib.hid T.out.a5
              replace HF := Lib.hid (HF.out.n5 (.cells #[.bool false, .int .u8 0, .int .u8 0, .int .u8 0, .int .u8 0, .int .u8 0, .int .u8 0, .int .u8 0, .int .u8 0, .int .u8 0, .int .u8 0, .int .u8 0, .int .u8 0, .int .u8 0, .int .u8 0, .int .u8 0, .int .u8 0] 24))
              generalize World.alloc Wc _ = Wn at T HF hHeld ⊢
              generalize Wc.heap.size = m5 at T HF ⊢
              rename World => Wc))
      | (have tt := (show AS _ _ _ (some _) (some _) none none from T.out)
         clear tt
         refine wpAnyH_ready (rs := [2, 11, 12]) (by kernel_rfl) (by simp) (AllReadyH.cons (o := { dst := some 14, op := _, type := _, pos := _, after := _, guard := _ }) rfl (fun K hK => (fun (mk2 : True) => ?_) trivial) (AllReadyH.cons (o := { dst := some 5, op := _, type := _, pos := _, after := _, guard := _ }) rfl (fun K hK => (fun (mk5 : True) => ?_) trivial) (AllReadyH.cons (o := { dst := some 6, op := _, type := _, pos := _, after := _, guard := _ }) rfl (fun K hK => (fun (mk6 : True) => ?_) trivial) AllReadyH.nil)))
         all_goals first
           | (clear mk2
              go_simp
              (go_at_call 6; (with_reducible refine (HFEW.out _ (HBL.out _ _ _ _ _ T.out)).mono ?_); rintro x wf ⟨u9, r9, rfl, hb, hs9, hr9⟩; obtain ⟨pu, cu, eu, _, _⟩ := hs9.1.len; obtain ⟨pr, cr, er, _, _⟩ := hr9.rcs.len; subst eu er; have HF := Lib.hid (FO.few hs9 hr9 T.out.pm); replace T := Lib.hid (T.out.below hb); have hft := HFT.out _ _ _ hs9.t hr9.t; clear hb hs9 hr9)
              try go_wp2_with fail
              refine hK.out _ _ (HKS.out _ _ _ _ _ T.out) (fun hHeld => ?_)
              clear hK K
              try simp only [Act.put, List.setIfInBounds_toArray, List.set_cons_zero, List.set_cons_succ]
              rename World => Wc)
           | (clear mk5
              go_simp
              refine hK.out _ _ (HKS.out _ _ _ _ _ T.out.a5) (fun hHeld => ?_)
              clear hK K
              try simp only [Act.put, List.setIfInBounds_toArray, List.set_cons_zero, List.set_cons_succ]
              replace T := Lib.hid T.out.a5
              generalize World.alloc Wc _ = Wn at T hHeld ⊢
              generalize Wc.heap.size = m5 at T ⊢
              rename World => Wc)
           | (clear mk6
              go_simp
              refine hK.out _ _ (HKS.out _ _ _ _ _ T.out.a6) (fun hHeld => ?_)
              clear hK K
              try simp only [Act.put, List.setIfInBounds_toArray, List.set_cons_zero, List.set_cons_succ]
              replace T := Lib.hid T.out.a6
              generalize World.alloc Wc _ = Wn at T hHeld ⊢
              generalize Wc.heap.size = m6 at T ⊢
              rename World => Wc))
      | (have tt := (show AS _ _ _ (some _) none (some _) none from T.out)
         clear tt
         refine wpAnyH_ready (rs := [2, 10, 12]) (by kernel_rfl) (by simp) (AllReadyH.cons (o := { dst := some 14, op := _, type := _, pos := _, after := _, guard := _ }) rfl (fun K hK => (fun (mk2 : True) => ?_) trivial) (AllReadyH.cons (o := { dst := some 4, op := _, type := _, pos := _, after := _, guard := _ }) rfl (fun K hK => (fun (mk4 : True) => ?_) trivial) (AllReadyH.cons (o := { dst := some 6, op := _, type := _, pos := _, after := _, guard := _ }) rfl (fun K hK => (fun (mk6 : True) => ?_) trivial) AllReadyH.nil)))
         all_goals first
           | (clear mk2
              go_simp
              (go_at_call 6; (with_reducible refine (HFEW.out _ (HBL.out _ _ _ _ _ T.out)).mono ?_); rintro x wf ⟨u9, r9, rfl, hb, hs9, hr9⟩; obtain ⟨pu, cu, eu, _, _⟩ := hs9.1.len; obtain ⟨pr, cr, er, _, _⟩ := hr9.rcs.len; subst eu er; have HF := Lib.hid (FO.few hs9 hr9 T.out.pm); replace T := Lib.hid (T.out.below hb); have hft := HFT.out _ _ _ hs9.t hr9.t; clear hb hs9 hr9)
              try go_wp2_with fail
              refine hK.out _ _ (HKS.out _ _ _ _ _ T.out) (fun hHeld => ?_)
              clear hK K
              try simp only [Act.put, List.setIfInBounds_toArray, List.set_cons_zero, List.set_cons_succ]
              rename World => Wc)
           | (clear mk4
              go_simp
              refine hK.out _ _ (HKS.out _ _ _ _ _ T.out.a4) (fun hHeld => ?_)
              clear hK K
              try simp only [Act.put, List.setIfInBounds_toArray, List.set_cons_zero, List.set_cons_succ]
              replace T := Lib.hid T.out.a4
              generalize World.alloc Wc _ = Wn at T hHeld ⊢
              generalize Wc.heap.size = m4 at T ⊢
              rename World => Wc)
           | (clear mk6
              go_simp
              refine hK.out _ _ (HKS.out _ _ _ _ _ T.out.a6) (fun hHeld => ?_)
              clear hK K
              try simp only [Act.put, List.setIfInBounds_toArray, List.set_cons_zero, List.set_cons_succ]
              replace T := Lib.hid T.out.a6
              generalize World.alloc Wc _ = Wn at T hHeld ⊢
              generalize Wc.heap.size = m6 at T ⊢
              rename World => Wc))
      | (have tt := (show AS _ _ _ (some _) none none (some _) from T.out)
         clear tt
         refine wpAnyH_ready (rs := [2, 10, 11]) (by kernel_rfl) (by simp) (AllReadyH.cons (o := { dst := some 14, op := _, type := _, pos := _, after := _, guard := _ }) rfl (fun K hK => (fun (mk2 : True) => ?_) trivial) (AllReadyH.cons (o := { dst := some 4, op := _, type := _, pos := _, after := _, guard := _ }) rfl (fun K hK => (fun (mk4 : True) => ?_) trivial) (AllReadyH.cons (o := { dst := some 5, op := _, type := _, pos := _, after := _, guard := _ }) rfl (fun K hK => (fun (mk5 : True) => ?_) trivial) AllReadyH.nil)))
         all_goals first
           | (clear mk2
              go_simp
              (go_at_call 6; (with_reducible refine (HFEW.out _ (HBL.out _ _ _ _ _ T.out)).mono ?_); rintro x wf ⟨u9, r9, rfl, hb, hs9, hr9⟩; obtain ⟨pu, cu, eu, _, _⟩ := hs9.1.len; obtain ⟨pr, cr, er, _, _⟩ := hr9.rcs.len; subst eu er; have HF := Lib.hid (FO.few hs9 hr9 T.out.pm); replace T := Lib.hid (T.out.below hb); have hft := HFT.out _ _ _ hs9.t hr9.t; clear hb hs9 hr9)
              try go_wp2_with fail
              refine hK.out _ _ (HKS.out _ _ _ _ _ T.out) (fun hHeld => ?_)
              clear hK K
              try simp only [Act.put, List.setIfInBounds_toArray, List.set_cons_zero, List.set_cons_succ]
              rename World => Wc)
           | (clear mk4
              go_simp
              refine hK.out _ _ (HKS.out _ _ _ _ _ T.out.a4) (fun hHeld => ?_)
              clear hK K
              try simp only [Act.put, List.setIfInBounds_toArray, List.set_cons_zero, List.set_cons_succ]
              replace T := Lib.hid T.out.a4
              generalize World.alloc Wc _ = Wn at T hHeld ⊢
              generalize Wc.heap.size = m4 at T ⊢
              rename World => Wc)
           | (clear mk5
              go_simp
              refine hK.out _ _ (HKS.out _ _ _ _ _ T.out.a5) (fun hHeld => ?_)
              clear hK K
              try simp only [Act.put, List.setIfInBounds_toArray, List.set_cons_zero, List.set_cons_succ]
              replace T := Lib.hid T.out.a5
              generalize World.alloc Wc _ = Wn at T hHeld ⊢
              generalize Wc.heap.size = m5 at T ⊢
              rename World => Wc))
      | (have tt := (show AS _ _ _ none (some _) (some _) none from T.out)
         clear tt
         refine wpAnyH_ready (rs := [2, 9, 12]) (by kernel_rfl) (by simp) (AllReadyH.cons (o := { dst := some 14, op := _, type := _, pos := _, after := _, guard := _ }) rfl (fun K hK => (fun (mk2 : True) => ?_) trivial) (AllReadyH.cons (o := { dst := some 3, op := _, type := _, pos := _, after := _, guard := _ }) rfl (fun K hK => (fun (mk3 : True) => ?_) trivial) (AllReadyH.cons (o := { dst := some 6, op := _, type := _, pos := _, after := _, guard := _ }) rfl (fun K hK => (fun (mk6 : True) => ?_) trivial) AllReadyH.nil)))
         all_goals first
           | (clear mk2
              go_simp
              (go_at_call 6; (with_reducible refine (HFEW.out _ (HBL.out _ _ _ _ _ T.out)).mono ?_); rintro x wf ⟨u9, r9, rfl, hb, hs9, hr9⟩; obtain ⟨pu, cu, eu, _, _⟩ := hs9.1.len; obtain ⟨pr, cr, er, _, _⟩ := hr9.rcs.len; subst eu er; have HF := Lib.hid (FO.few hs9 hr9 T.out.pm); replace T := Lib.hid (T.out.below hb); have hft := HFT.out _ _ _ hs9.t hr9.t; clear hb hs9 hr9)
              try go_wp2_with fail
              refine hK.out _ _ (HKS.out _ _ _ _ _ T.out) (fun hHeld => ?_)
              clear hK K
              try simp only [Act.put, List.setIfInBounds_toArray, List.set_cons_zero, List.set_cons_succ]
              rename World => Wc)
           | (clear mk3
              go_simp
              refine hK.out _ _ (HKS.out _ _ _ _ _ T.out.a3) (fun hHeld => ?_)
              clear hK K
              try simp only [Act.put, List.setIfInBounds_toArray, List.set_cons_zero, List.set_cons_succ]
              replace T := Lib.hid T.out.a3
              generalize World.alloc Wc _ = Wn at T hHeld ⊢
              generalize Wc.heap.size = m3 at T ⊢
              rename World => Wc)
           | (clear mk6
              go_simp
              refine hK.out _ _ (HKS.out _ _ _ _ _ T.out.a6) (fun hHeld => ?_)
              clear hK K
              try simp only [Act.put, List.setIfInBounds_toArray, List.set_cons_zero, List.set_cons_succ]
              replace T := Lib.hid T.out.a6
              generalize World.alloc Wc _ = Wn at T hHeld ⊢
              generalize Wc.heap.size = m6 at T ⊢
              rename World => Wc))
      | (have tt := (show AS _ _ _ none (some _) none (some _) from T.out)
         clear tt
         refine wpAnyH_ready (rs := [2, 9, 11]) (by kernel_rfl) (by simp) (AllReadyH.cons (o := { dst := some 14, op := _, type := _, pos := _, after := _, guard := _ }) rfl (fun K hK => (fun (mk2 : True) => ?_) trivial) (AllReadyH.cons (o := { dst := some 3, op := _, type := _, pos := _, after := _, guard := _ }) rfl (fun K hK => (fun (mk3 : True) => ?_) trivial) (AllReadyH.cons (o := { dst := some 5, op := _, type := _, pos := _, after := _, guard := _ }) rfl (fun K hK => (fun (mk5 : True) => ?_) trivial) AllReadyH.nil)))
         all_goals first
           | (clear mk2
              go_simp
              (go_at_call 6; (with_reducible refine (HFEW.out _ (HBL.out _ _ _ _ _ T.out)).mono ?_); rintro x wf ⟨u9, r9, rfl, hb, hs9, hr9⟩; obtain ⟨pu, cu, eu, _, _⟩ := hs9.1.len; obtain ⟨pr, cr, er, _, _⟩ := hr9.rcs.len; subst eu er; have HF := Lib.hid (FO.few hs9 hr9 T.out.pm); replace T := Lib.hid (T.out.below hb); have hft := HFT.out _ _ _ hs9.t hr9.t; clear hb hs9 hr9)
              try go_wp2_with fail
              refine hK.out _ _ (HKS.out _ _ _ _ _ T.out) (fun hHeld => ?_)
              clear hK K
              try simp only [Act.put, List.setIfInBounds_toArray, List.set_cons_zero, List.set_cons_succ]
              rename World => Wc)
           | (clear mk3
              go_simp
              refine hK.out _ _ (HKS.out _ _ _ _ _ T.out.a3) (fun hHeld => ?_)
              clear hK K
              try simp only [Act.put, List.setIfInBounds_toArray, List.set_cons_zero, List.set_cons_succ]
              replace T := Lib.hid T.out.a3
              generalize World.alloc Wc _ = Wn at T hHeld ⊢
              generalize Wc.heap.size = m3 at T ⊢
              rename World => Wc)
           | (clear mk5
              go_simp
              refine hK.out _ _ (HKS.out _ _ _ _ _ T.out.a5) (fun hHeld => ?_)
              clear hK K
              try simp only [Act.put, List.setIfInBounds_toArray, List.set_cons_zero, List.set_cons_succ]
              replace T := Lib.hid T.out.a5
              generalize World.alloc Wc _ = Wn at T hHeld ⊢
              generalize Wc.heap.size = m5 at T ⊢
              rename World => Wc))
      | (have tt := (show AS _ _ _ none none (some _) (some _) from T.out)
         clear tt
         refine wpAnyH_ready (rs := [2, 9, 10]) (by kernel_rfl) (by simp) (AllReadyH.cons (o := { dst := some 14, op := _, type := _, pos := _, after := _, guard := _ }) rfl (fun K hK => (fun (mk2 : True) => ?_) trivial) (AllReadyH.cons (o := { dst := some 3, op := _, type := _, pos := _, after := _, guard := _ }) rfl (fun K hK => (fun (mk3 : True) => ?_) trivial) (AllReadyH.cons (o := { dst := some 4, op := _, type := _, pos := _, after := _, guard := _ }) rfl (fun K hK => (fun (mk4 : True) => ?_) trivial) AllReadyH.nil)))
         all_goals first
           | (clear mk2
              go_simp
              (go_at_call 6; (with_reducible refine (HFEW.out _ (HBL.out _ _ _ _ _ T.out)).mono ?_); rintro x wf ⟨u9, r9, rfl, hb, hs9, hr9⟩; obtain ⟨pu, cu, eu, _, _⟩ := hs9.1.len; obtain ⟨pr, cr, er, _, _⟩ := hr9.rcs.len; subst eu er; have HF := Lib.hid (FO.few hs9 hr9 T.out.pm); replace T := Lib.hid (T.out.below hb); have hft := HFT.out _ _ _ hs9.t hr9.t; clear hb hs9 hr9)
              try go_wp2_with fail
              refine hK.out _ _ (HKS.out _ _ _ _ _ T.out) (fun hHeld => ?_)
              clear hK K
              try simp only [Act.put, List.setIfInBounds_toArray, List.set_cons_zero, List.set_cons_succ]
              rename World => Wc)
           | (clear mk3
              go_simp
              refine hK.out _ _ (HKS.out _ _ _ _ _ T.out.a3) (fun hHeld => ?_)
              clear hK K
              try simp only [Act.put, List.setIfInBounds_toArray, List.set_cons_zero, List.set_cons_succ]
              replace T := Lib.hid T.out.a3
              generalize World.alloc Wc _ = Wn at T hHeld ⊢
              generalize Wc.heap.size = m3 at T ⊢
              rename World => Wc)
           | (clear mk4
              go_simp
              refine hK.out _ _ (HKS.out _ _ _ _ _ T.out.a4) (fun hHeld => ?_)
              clear hK K
              try simp only [Act.put, List.setIfInBounds_toArray, List.set_cons_zero, List.set_cons_succ]
              replace T := Lib.hid T.out.a4
              generalize World.alloc Wc _ = Wn at T hHeld ⊢
              generalize Wc.heap.size = m4 at T ⊢
              rename World => Wc))
    all_goals first
      | (have tt := (show AS _ _ _ (some _) (some _) none none from T.out)
         have th := HF.out
         clear tt th
         refine wpAnyH_ready (rs := [11, 12]) (by kernel_rfl) (by simp) (AllReadyH.cons (o := { dst := some 5, op := _, type := _, pos := _, after := _, guard := _ }) rfl (fun K hK => (fun (mk5 : True) => ?_) trivial) (AllReadyH.cons (o := { dst := some 6, op := _, type := _, pos := _, after := _, guard := _ }) rfl (fun K hK => (fun (mk6 : True) => ?_) trivial) AllReadyH.nil))
         all_goals first
           | (clear mk5
              go_simp
              refine hK.out _ _ (HKS.out _ _ _ _ _ T.out.a5) (fun hHeld => ?_)
              clear hK K
              try simp only [Act.put, List.setIfInBounds_toArray, List.set_cons_zero, List.set_cons_succ]
              replace T := Lib.hid T.out.a5
              replace HF := Lib.hid (HF.out.n5 (.cells #[.bool false, .int .u8 0, .int .u8 0, .int .u8 0, .int .u8 0, .int .u8 0, .int .u8 0, .int .u8 0, .int .u8 0, .int .u8 0, .int .u8 0, .int .u8 0, .int .u8 0, .int .u8 0, .int .u8 0, .int .u8 0, .int .u8 0] 24))
              generalize World.alloc Wc _ = Wn at T HF hHeld ⊢
              generalize Wc.heap.size = m5 at T HF ⊢
              rename World => Wc)
           | (clear mk6
              go_simp
              refine hK.out _ _ (HKS.out _ _ _ _ _ T.out.a6) (fun hHeld => ?_)
              clear hK K
              try simp only [Act.put, List.setIfInBounds_toArray, List.set_cons_zero, List.set_cons_succ]
              replace T := Lib.hid T.out.a6
              replace HF := Lib.hid (HF.out.n6 (.cells #[.bool false, .int .u8 0, .int .u8 0, .int .u8 0, .int .u8 0, .int .u8 0, .int .u8 0, .int .u8 0, .int .u8 0, .int .u8 0, .int .u8 0, .int .u8 0, .int .u8 0, .int .u8 0, .int .u8 0, .int .u8 0, .int .u8 0] 24))
              generalize World.alloc Wc _ = Wn at T HF hHeld ⊢
              generalize Wc.heap.size = m6 at T HF ⊢
              rename World => Wc))
      | (have tt := (show AS _ _ _ (some _) none (some _) none from T.out)
         have th := HF.out
         clear tt th
         refine wpAnyH_ready (rs := [10, 12]) (by kernel_rfl) (by simp) (AllReadyH.cons (o := { dst := some 4, op := _, type := _, pos := _, after := _, guard := _ }) rfl (fun K hK => (fun (mk4 : True) => ?_) trivial) (AllReadyH.cons (o := { dst := some 6, op := _, type := _, pos := _, after := _, guard := _ }) rfl (fun K hK => (fun (mk6 : True) => ?_) trivial) AllReadyH.nil))
         all_goals first
           | (clear mk4
              go_simp
              refine hK.out _ _ (HKS.out _ _ _ _ _ T.out.a4) (fun hHeld => ?_)
              clear hK K
              try simp only [Act.put, List.setIfInBounds_toArray, List.set_cons_zero, List.set_cons_succ]
              replace T := Lib.hid T.out.a4
              replace HF := Lib.hid (HF.out.n4 (.cells #[.bool false, .int .u8 0, .int .u8 0, .int .u8 0, .int .u8 0, .int .u8 0, .int .u8 0, .int .u8 0, .int .u8 0, .int .u8 0, .int .u8 0, .int .u8 0, .int .u8 0, .int .u8 0, .int .u8 0, .int .u8 0, .int .u8 0] 24))
              generalize World.alloc Wc _ = Wn at T HF hHeld ⊢
              generalize Wc.heap.size = m4 at T HF ⊢
              rename World => Wc)
           | (clear mk6
              go_simp
              refine hK.out _ _ (HKS.out _ _ _ _ _ T.out.a6) (fun hHeld => ?_)
              clear hK K
              try simp only [Act.put, List.setIfInBounds_toArray, List.set_cons_zero, List.set_cons_succ]
              replace T := Lib.hid T.out.a6
              replace HF := Lib.hid (HF.out.n6 (.cells #[.bool false, .int .u8 0, .int .u8 0, .int .u8 0, .int .u8 0, .int .u8 0, .int .u8 0, .int .u8 0, .int .u8 0, .int .u8 0, .int .u8 0, .int .u8 0, .int .u8 0, .int .u8 0, .int .u8 0, .int .u8 0, .int .u8 0] 24))
              generalize World.alloc Wc _ = Wn at T HF hHeld ⊢
              generalize Wc.heap.size = m6 at T HF ⊢
              rename World => Wc))
      | (have tt := (show AS _ _ _ (some _) none none (some _) from T.out)
         have th := HF.out
         clear tt th
         refine wpAnyH_ready (rs := [10, 11]) (by kernel_rfl) (by simp) (AllReadyH.cons (o := { dst := some 4, op := _, type := _, pos := _, after := _, guard := _ }) rfl (fun K hK => (fun (mk4 : True) => ?_) trivial) (AllReadyH.cons (o := { dst := some 5, op := _, type := _, pos := _, after := _, guard := _ }) rfl (fun K hK => (fun (mk5 : True) => ?_) trivial) AllReadyH.nil))
         all_goals first
           | (clear mk4
              go_simp
              refine hK.out _ _ (HKS.out _ _ _ _ _ T.out.a4) (fun hHeld => ?_)
              clear hK K
              try simp only [Act.put, List.setIfInBounds_toArray, List.set_cons_zero, List.set_cons_succ]
              replace T := Lib.hid T.out.a4
              replace HF := Lib.hid (HF.out.n4 (.cells #[.bool false, .int .u8 0, .int .u8 0, .int .u8 0, .int .u8 0, .int .u8 0, .int .u8 0, .int .u8 0, .int .u8 0, .int .u8 0, .int .u8 0, .int .u8 0, .int .u8 0, .int .u8 0, .int .u8 0, .int .u8 0, .int .u8 0] 24))
              generalize World.alloc Wc _ = Wn at T HF hHeld ⊢
              generalize Wc.heap.size = m4 at T HF ⊢
              rename World => Wc)
           | (clear mk5
              go_simp
              refine hK.out _ _ (HKS.out _ _ _ _ _ T.out.a5) (fun hHeld => ?_)
              clear hK K
              try simp only [Act.put, List.setIfInBounds_toArray, List.set_cons_zero, List.set_cons_succ]
              replace T := Lib.hid T.out.a5
              replace HF := Lib.hid (HF.out.n5 (.cells #[.bool false, .int .u8 0, .int .u8 0, .int .u8 0, .int .u8 0, .int .u8 0, .int .u8 0, .int .u8 0, .int .u8 0, .int .u8 0, .int .u8 0, .int .u8 0, .int .u8 0, .int .u8 0, .int .u8 0, .int .u8 0, .int .u8 0] 24))
              generalize World.alloc Wc _ = Wn at T HF hHeld ⊢
              generalize Wc.heap.size = m5 at T HF ⊢
              rename World => Wc))
      | (have tt := (show AS _ _ _ none (some _) (some _) none from T.out)
         have th := HF.out
         clear tt th
         refine wpAnyH_ready (rs := [9, 12]) (by kernel_rfl) (by simp) (AllReadyH.cons (o := { dst := some 3, op := _, type := _, pos := _, after := _, guard := _ }) rfl (fun K hK => (fun (mk3 : True) => ?_) trivial) (AllReadyH.cons (o := { dst := some 6, op := _, type := _, pos := _, after := _, guard := _ }) rfl (fun K hK => (fun (mk6 : True) => ?_) trivial) AllReadyH.nil))
         all_goals first
           | (clear mk3
              go_simp
              refine hK.out _ _ (HKS.out _ _ _ _ _ T.out.a3) (fun hHeld => ?_)
              clear hK K
              try simp only [Act.put, List.setIfInBounds_toArray, List.set_cons_zero, List.set_cons_succ]
              replace T := Lib.hid T.out.a3
              replace HF := Lib.hid (HF.out.below (bal9 Wc (.cells #[.bool false, .int .i64 0, .int .i64 0, .int .i64 0, .bool false, .int .u8 0, .int .u8 0, .int .u8 0, .int .u8 0, .int .u8 0, .int .u8 0, .int .u8 0, .int .u8 0, .int .u8 0, .int .u8 0, .int .u8 0, .int .u8 0, .int .u8 0, .int .u8 0, .int .u8 0, .int .u8 0, .bool false, .int .i64 0, .int .i64 0, .slice none 0 0, .slice none 0 0] 28)))
              generalize World.alloc Wc _ = Wn at T HF hHeld ⊢
              generalize Wc.heap.size = m3 at T HF ⊢
              rename World => Wc)
           | (clear mk6
              go_simp
              refine hK.out _ _ (HKS.out _ _ _ _ _ T.out.a6) (fun hHeld => ?_)
              clear hK K
              try simp only [Act.put, List.setIfInBounds_toArray, List.set_cons_zero, List.set_cons_succ]
              replace T := Lib.hid T.out.a6
              replace HF := Lib.hid (HF.out.n6 (.cells #[.bool false, .int .u8 0, .int .u8 0, .int .u8 0, .int .u8 0, .int .u8 0, .int .u8 0, .int .u8 0, .int .u8 0, .int .u8 0, .int .u8 0, .int .u8 0, .int .u8 0, .int .u8 0, .int .u8 0, .int .u8 0, .int .u8 0] 24))
              generalize World.alloc Wc _ = Wn at T HF hHeld ⊢
              generalize Wc.heap.size = m6 at T HF ⊢
              rename World => Wc))
      | (have tt := (show AS _ _ _ none (some _) none (some _) from T.out)
         have th := HF.out
         clear tt th
         refine wpAnyH_ready (rs := [9, 11]) (by kernel_rfl) (by simp) (AllReadyH.cons (o := { dst := some 3, op := _, type := _, pos := _, after := _, guard := _ }) rfl (fun K hK => (fun (mk3 : True) => ?_) trivial) (AllReadyH.cons (o := { dst := some 5, op := _, type := _, pos := _, after := _, guard := _ }) rfl (fun K hK => (fun (mk5 : True) => ?_) trivial) AllReadyH.nil))
         all_goals first
           | (clear mk3
              go_simp
              refine hK.out _ _ (HKS.out _ _ _ _ _ T.out.a3) (fun hHeld => ?_)
              clear hK K
              try simp only [Act.put, List.setIfInBounds_toArray, List.set_cons_zero, List.set_cons_succ]
              replace T := Lib.hid T.out.a3
              replace HF := Lib.hid (HF.out.below (bal9 Wc (.cells #[.bool false, .int .i64 0, .int .i64 0, .int .i64 0, .bool false, .int .u8 0, .int .u8 0, .int .u8 0, .int .u8 0, .int .u8 0, .int .u8 0, .int .u8 0, .int .u8 0, .int .u8 0, .int .u8 0, .int .u8 0, .int .u8 0, .int .u8 0, .int .u8 0, .int .u8 0, .int .u8 0, .bool false, .int .i64 0, .int .i64 0, .slice none 0 0, .slice none 0 0] 28)))
              generalize World.alloc Wc _ = Wn at T HF hHeld ⊢
              generalize Wc.heap.size = m3 at T HF ⊢
              rename World => Wc)
           | (clear mk5
              go_simp
              refine hK.out _ _ (HKS.out _ _ _ _ _ T.out.a5) (fun hHeld => ?_)
              clear hK K
              try simp only [Act.put, List.setIfInBounds_toArray, List.set_cons_zero, List.set_cons_succ]
              replace T := Lib.hid T.out.a5
              replace HF := Lib.hid (HF.out.n5 (.cells #[.bool false, .int .u8 0, .int .u8 0, .int .u8 0, .int .u8 0, .int .u8 0, .int .u8 0, .int .u8 0, .int .u8 0, .int .u8 0, .int .u8 0, .int .u8 0, .int .u8 0, .int .u8 0, .int .u8 0, .int .u8 0, .int .u8 0] 24))
              generalize World.alloc Wc _ = Wn at T HF hHeld ⊢
              generalize Wc.heap.size = m5 at T HF ⊢
              rename World => Wc))
      | (have tt := (show AS _ _ _ none none (some _) (some _) from T.out)
         have th := HF.out
         clear tt th
         refine wpAnyH_ready (rs := [9, 10]) (by kernel_rfl) (by simp) (AllReadyH.cons (o := { dst := some 3, op := _, type := _, pos := _, after := _, guard := _ }) rfl (fun K hK => (fun (mk3 : True) => ?_) trivial) (AllReadyH.cons (o := { dst := some 4, op := _, type := _, pos := _, after := _, guard := _ }) rfl (fun K hK => (fun (mk4 : True) => ?_) trivial) AllReadyH.nil))
         all_goals first
           | (clear mk3
              go_simp
              refine hK.out _ _ (HKS.out _ _ _ _ _ T.out.a3) (fun hHeld => ?_)
              clear hK K
              try simp only [Act.put, List.setIfInBounds_toArray, List.set_cons_zero, List.set_cons_succ]
              replace T := Lib.hid T.out.a3
              replace HF := Lib.hid (HF.out.below (bal9 Wc (.cells #[.bool false, .int .i64 0, .int .i64 0, .int .i64 0, .bool false, .int .u8 0, .int .u8 0, .int .u8 0, .int .u8 0, .int .u8 0, .int .u8 0, .int .u8 0, .int .u8 0, .int .u8 0, .int .u8 0, .int .u8 0, .int .u8 0, .int .u8 0, .int .u8 0, .int .u8 0, .int .u8 0, .bool false, .int .i64 0, .int .i64 0, .slice none 0 0, .slice none 0 0] 28)))
              generalize World.alloc Wc _ = Wn at T HF hHeld ⊢
              generalize Wc.heap.size = m3 at T HF ⊢
              rename World => Wc)
           | (clear mk4
              go_simp
              refine hK.out _ _ (HKS.out _ _ _ _ _ T.out.a4) (fun hHeld => ?_)
              clear hK K
              try simp only [Act.put, List.setIfInBounds_toArray, List.set_cons_zero, List.set_cons_succ]
              replace T := Lib.hid T.out.a4
              replace HF := Lib.hid (HF.out.n4 (.cells #[.bool false, .int .u8 0, .int .u8 0, .int .u8 0, .int .u8 0, .int .u8 0, .int .u8 0, .int .u8 0, .int .u8 0, .int .u8 0, .int .u8 0, .int .u8 0, .int .u8 0, .int .u8 0, .int .u8 0, .int .u8 0, .int .u8 0] 24))
              generalize World.alloc Wc _ = Wn at T HF hHeld ⊢
              generalize Wc.heap.size = m4 at T HF ⊢
              rename World => Wc))
      | (have tt := (show AS _ _ _ (some _) (some _) (some _) none from T.out)
         clear tt
         refine wpAnyH_ready (rs := [2, 12]) (by kernel_rfl) (by simp) (AllReadyH.cons (o := { dst := some 14, op := _, type := _, pos := _, after := _, guard := _ }) rfl (fun K hK => (fun (mk2 : True) => ?_) trivial) (AllReadyH.cons (o := { dst := some 6, op := _, type := _, pos := _, after := _, guard := _ }) rfl (fun K hK => (fun (mk6 : True) => ?_) trivial) AllReadyH.nil))
         all_goals first
           | (clear mk2
              go_simp
              (go_at_call 6; (with_reducible refine (HFEW.out _ (HBL.out _ _ _ _ _ T.out)).mono ?_); rintro x wf ⟨u9, r9, rfl, hb, hs9, hr9⟩; obtain ⟨pu, cu, eu, _, _⟩ := hs9.1.len; obtain ⟨pr, cr, er, _, _⟩ := hr9.rcs.len; subst eu er; have HF := Lib.hid (FO.few hs9 hr9 T.out.pm); replace T := Lib.hid (T.out.below hb); have hft := HFT.out _ _ _ hs9.t hr9.t; clear hb hs9 hr9)
              try go_wp2_with fail
              refine hK.out _ _ (HKS.out _ _ _ _ _ T.out) (fun hHeld => ?_)
              clear hK K
              try simp only [Act.put, List.setIfInBounds_toArray, List.set_cons_zero, List.set_cons_succ]
              rename World => Wc)
           | (clear mk6
              go_simp
              refine hK.out _ _ (HKS.out _ _ _ _ _ T.out.a6) (fun hHeld => ?_)
              clear hK K
              try simp only [Act.put, List.setIfInBounds_toArray, List.set_cons_zero, List.set_cons_succ]
              replace T := Lib.hid T.out.a6
              generalize World.alloc Wc _ = Wn at T hHeld ⊢
              generalize Wc.heap.size = m6 at T ⊢
              rename World => Wc))
      | (have tt := (show AS _ _ _ (some _) (some _) none (some _) from T.out)
         clear tt
         refine wpAnyH_ready (rs := [2, 11]) (by kernel_rfl) (by simp) (AllReadyH.cons (o := { dst := some 14, op := _, type := _, pos := _, after := _, guard := _ }) rfl (fun K hK => (fun (mk2 : True) => ?_) trivial) (AllReadyH.cons (o := { dst := some 5, op := _, type := _, pos := _, after := _, guard := _ }) rfl (fun K hK => (fun (mk5 : True) => ?_) trivial) AllReadyH.nil))
         all_goals first
           | (clear mk2
              go_simp
              (go_at_call 6; (with_reducible refine (HFEW.out _ (HBL.out _ _ _ _ _ T.out)).mono ?_); rintro x wf ⟨u9, r9, rfl, hb, hs9, hr9⟩; obtain ⟨pu, cu, eu, _, _⟩ := hs9.1.len; obtain ⟨pr, cr, er, _, _⟩ := hr9.rcs.len; subst eu er; have HF := Lib.hid (FO.few hs9 hr9 T.out.pm); replace T := Lib.hid (T.out.below hb); have hft := HFT.out _ _ _ hs9.t hr9.t; clear hb hs9 hr9)
              try go_wp2_with fail
              refine hK.out _ _ (HKS.out _ _ _ _ _ T.out) (fun hHeld => ?_)
              clear hK K
              try simp only [Act.put, List.setIfInBounds_toArray, List.set_cons_zero, List.set_cons_succ]
              rename World => Wc)
           | (clear mk5
              go_simp
              refine hK.out _ _ (HKS.out _ _ _ _ _ T.out.a5) (fun hHeld => ?_)
              clear hK K
              try simp only [Act.put, List.setIfInBounds_toArray, List.set_cons_zero, List.set_cons_succ]
              replace T := Lib.hid T.out.a5
              generalize World.alloc Wc _ = Wn at T hHeld ⊢
              generalize Wc.heap.size = m5 at T ⊢
              rename World => Wc))
      | (have tt := (show AS _ _ _ (some _) none (some _) (some _) from T.out)
         clear tt
         refine wpAnyH_ready (rs := [2, 10]) (by kernel_rfl) (by simp) (AllReadyH.cons (o := { dst := some 14, op := _, type := _, pos := _, after := _, guard := _ }) rfl (fun K hK => (fun (mk2 : True) => ?_) trivial) (AllReadyH.cons (o := { dst := some 4, op := _, type := _, pos := _, after := _, guard := _ }) rfl (fun K hK => (fun (mk4 : True) => ?_) trivial) AllReadyH.nil))
         all_goals first
           | (clear mk2
              go_simp
              (go_at_call 6; (with_reducible refine (HFEW.out _ (HBL.out _ _ _ _ _ T.out)).mono ?_); rintro x wf ⟨u9, r9, rfl, hb, hs9, hr9⟩; obtain ⟨pu, cu, eu, _, _⟩ := hs9.1.len; obtain ⟨pr, cr, er, _, _⟩ := hr9.rcs.len; subst eu er; have HF := Lib.hid (FO.few hs9 hr9 T.out.pm); replace T := Lib.hid (T.out.below hb); have hft := HFT.out _ _ _ hs9.t hr9.t; clear hb hs9 hr9)
              try go_wp2_with fail
              refine hK.out _ _ (HKS.out _ _ _ _ _ T.out) (fun hHeld => ?_)
              clear hK K
              try simp only [Act.put, List.setIfInBounds_toArray, List.set_cons_zero, List.set_cons_succ]
              rename World => Wc)
           | (clear mk4
              go_simp
              refine hK.out _ _ (HKS.out _ _ _ _ _ T.out.a4) (fun hHeld => ?_)
              clear hK K
              try simp only [Act.put, List.setIfInBounds_toArray, List.set_cons_zero, List.set_cons_succ]
              replace T := Lib.hid T.out.a4
              generalize World.alloc Wc _ = Wn at T hHeld ⊢
              generalize Wc.heap.size = m4 at T ⊢
              rename World => Wc))
      | (have tt := (show AS _ _ _ none (some _) (some _) (some _) from T.out)
         clear tt
         refine wpAnyH_ready (rs := [2, 9]) (by kernel_rfl) (by simp) (AllReadyH.cons (o := { dst := some 14, op := _, type := _, pos := _, after := _, guard := _ }) rfl (fun K hK => (fun (mk2 : True) => ?_) trivial) (AllReadyH.cons (o := { dst := some 3, op := _, type := _, pos := _, after := _, guard := _ }) rfl (fun K hK => (fun (mk3 : True) => ?_) trivial) AllReadyH.nil))
         all_goals first
           | (clear mk2
              go_simp
              (go_at_call 6; (with_reducible refine (HFEW.out _ (HBL.out _ _ _ _ _ T.out)).mono ?_); rintro x wf ⟨u9, r9, rfl, hb, hs9, hr9⟩; obtain ⟨pu, cu, eu, _, _⟩ := hs9.1.len; obtain ⟨pr, cr, er, _, _⟩ := hr9.rcs.len; subst eu er; have HF := Lib.hid (FO.few hs9 hr9 T.out.pm); replace T := Lib.hid (T.out.below hb); have hft := HFT.out _ _ _ hs9.t hr9.t; clear hb hs9 hr9)
              try go_wp2_with fail
              refine hK.out _ _ (HKS.out _ _ _ _ _ T.out) (fun hHeld => ?_)
              clear hK K
              try simp only [Act.put, List.setIfInBounds_toArray, List.set_cons_zero, List.set_cons_succ]
              rename World => Wc)
           | (clear mk3
              go_simp
              refine hK.out _ _ (HKS.out _ _ _ _ _ T.out.a3) (fun hHeld => ?_)
              clear hK K
              try simp only [Act.put, List.setIfInBounds_toArray, List.set_cons_zero, List.set_cons_succ]
              replace T := Lib.hid T.out.a3
              generalize World.alloc Wc _ = Wn at T hHeld ⊢
              generalize Wc.heap.size = m3 at T ⊢
              rename World => Wc))
    all_goals first
      | (have tt := (show AS _ _ _ (some _) (some _) (some _) none from T.out)
         have th := HF.out
         clear tt th
         refine wpAnyH_ready (rs := [12]) (by kernel_rfl) (by simp) (AllReadyH.cons (o := { dst := some 6, op := _, type := _, pos := _, after := _, guard := _ }) rfl (fun K hK => (fun (mk6 : True) => ?_) trivial) AllReadyH.nil)
         all_goals first
           | (clear mk6
              go_simp
              refine hK.out _ _ (HKS.out _ _ _ _ _ T.out.a6) (fun hHeld => ?_)
              clear hK K
              try simp only [Act.put, List.setIfInBounds_toArray, List.set_cons_zero, List.set_cons_succ]
              replace T := Lib.hid T.out.a6
              replace HF := Lib.hid (HF.out.n6 (.cells #[.bool false, .int .u8 0, .int .u8 0, .int .u8 0, .int .u8 0, .int .u8 0, .int .u8 0, .int .u8 0, .int .u8 0, .int .u8 0, .int .u8 0, .int .u8 0, .int .u8 0, .int .u8 0, .int .u8 0, .int .u8 0, .int .u8 0] 24))
              generalize World.alloc Wc _ = Wn at T HF hHeld ⊢
              generalize Wc.heap.size = m6 at T HF ⊢
              rename World => Wc
              have hf3 := HFR.out _ _ _ _ _ T.out))
      | (have tt := (show AS _ _ _ (some _) (some _) none (some _) from T.out)
         have th := HF.out
         clear tt th
         refine wpAnyH_ready (rs := [11]) (by kernel_rfl) (by simp) (AllReadyH.cons (o := { dst := some 5, op := _, type := _, pos := _, after := _, guard := _ }) rfl (fun K hK => (fun (mk5 : True) => ?_) trivial) AllReadyH.nil)
         all_goals first
           | (clear mk5
              go_simp
              refine hK.out _ _ (HKS.out _ _ _ _ _ T.out.a5) (fun hHeld => ?_)
              clear hK K
              try simp only [Act.put, List.setIfInBounds_toArray, List.set_cons_zero, List.set_cons_succ]
              replace T := Lib.hid T.out.a5
              replace HF := Lib.hid (HF.out.n5 (.cells #[.bool false, .int .u8 0, .int .u8 0, .int .u8 0, .int .u8 0, .int .u8 0, .int .u8 0, .int .u8 0, .int .u8 0, .int .u8 0, .int .u8 0, .int .u8 0, .int .u8 0, .int .u8 0, .int .u8 0, .int .u8 0, .int .u8 0] 24))
              generalize World.alloc Wc _ = Wn at T HF hHeld ⊢
              generalize Wc.heap.size = m5 at T HF ⊢
              rename World => Wc
              have hf3 := HFR.out _ _ _ _ _ T.out))
      | (have tt := (show AS _ _ _ (some _) none (some _) (some _) from T.out)
         have th := HF.out
         clear tt th
         refine wpAnyH_ready (rs := [10]) (by kernel_rfl) (by simp) (AllReadyH.cons (o := { dst := some 4, op := _, type := _, pos := _, after := _, guard := _ }) rfl (fun K hK => (fun (mk4 : True) => ?_) trivial) AllReadyH.nil)
         all_goals first
           | (clear mk4
              go_simp
              refine hK.out _ _ (HKS.out _ _ _ _ _ T.out.a4) (fun hHeld => ?_)
              clear hK K
              try simp only [Act.put, List.setIfInBounds_toArray, List.set_cons_zero, List.set_cons_succ]
              replace T := Lib.hid T.out.a4
              replace HF := Lib.hid (HF.out.n4 (.cells #[.bool false, .int .u8 0, .int .u8 0, .int .u8 0, .int .u8 0, .int .u8 0, .int .u8 0, .int .u8 0, .int .u8 0, .int .u8 0, .int .u8 0, .int .u8 0, .int .u8 0, .int .u8 0, .int .u8 0, .int .u8 0, .int .u8 0] 24))
              generalize World.alloc Wc _ = Wn at T HF hHeld ⊢
              generalize Wc.heap.size = m4 at T HF ⊢
              rename World => Wc
              have hf3 := HFR.out _ _ _ _ _ T.out))
      | (have tt := (show AS _ _ _ none (some _) (some _) (some _) from T.out)
         have th := HF.out
         clear tt th
         refine wpAnyH_ready (rs := [9]) (by kernel_rfl) (by simp) (AllReadyH.cons (o := { dst := some 3, op := _, type := _, pos := _, after := _, guard := _ }) rfl (fun K hK => (fun (mk3 : True) => ?_) trivial) AllReadyH.nil)
         all_goals first
           | (clear mk3
              go_simp
              refine hK.out _ _ (HKS.out _ _ _ _ _ T.out.a3) (fun hHeld => ?_)
              clear hK K
              try simp only [Act.put, List.setIfInBounds_toArray, List.set_cons_zero, List.set_cons_succ]
              replace T := Lib.hid T.out.a3
              replace HF := Lib.hid (HF.out.below (bal9 Wc (.cells #[.bool false, .int .i64 0, .int .i64 0, .int .i64 0, .bool false, .int .u8 0, .int .u8 0, .int .u8 0, .int .u8 0, .int .u8 0, .int .u8 0, .int .u8 0, .int .u8 0, .int .u8 0, .int .u8 0, .int .u8 0, .int .u8 0, .int .u8 0, .int .u8 0, .int .u8 0, .int .u8 0, .bool false, .int .i64 0, .int .i64 0, .slice none 0 0, .slice none 0 0] 28)))
              generalize World.alloc Wc _ = Wn at T HF hHeld ⊢
              generalize Wc.heap.size = m3 at T HF ⊢
              rename World => Wc
              have hf3 := HFR.out _ _ _ _ _ T.out))
      | (have tt := (show AS _ _ _ (some _) (some _) (some _) (some _) from T.out)
         clear tt
         refine wpAnyH_ready (rs := [2]) (by kernel_rfl) (by simp) (AllReadyH.cons (o := { dst := some 14, op := _, type := _, pos := _, after := _, guard := _ }) rfl (fun K hK => (fun (mk2 : True) => ?_) trivial) AllReadyH.nil)
         all_goals first
           | (clear mk2
              go_simp
              (go_at_call 6; (with_reducible refine (HFEW.out _ (HBL.out _ _ _ _ _ T.out)).mono ?_); rintro x wf ⟨u9, r9, rfl, hb, hs9, hr9⟩; obtain ⟨pu, cu, eu, _, _⟩ := hs9.1.len; obtain ⟨pr, cr, er, _, _⟩ := hr9.rcs.len; subst eu er; have HF := Lib.hid (FO.few hs9 hr9 T.out.pm); replace T := Lib.hid (T.out.below hb); have hft := HFT.out _ _ _ hs9.t hr9.t; clear hb hs9 hr9)
              try go_wp2_with fail
              refine hK.out _ _ (HKS.out _ _ _ _ _ T.out) (fun hHeld => ?_)
              clear hK K
              try simp only [Act.put, List.setIfInBounds_toArray, List.set_cons_zero, List.set_cons_succ]
              rename World => Wc
              have hf3 := HFR.out _ _ _ _ _ T.out))
    all_goals (
      refine wpAnyH_ready (rs := [13]) (by kernel_rfl) (by simp) (AllReadyH.cons (o := { dst := none, op := _, type := _, pos := _, after := _, guard := _ }) rfl (fun K hK => ?_) AllReadyH.nil)
      go_simp
      refine hK.out _ _ (HKT.out _ _ _ _ _ _ _ _ _ _ _ (T.out.at HF.out HOT.out)) (fun hHeld => ?_)
      clear hK K
      try simp only [Act.put, List.setIfInBounds_toArray, List.set_cons_zero, List.set_cons_succ]
      have HT1 := Lib.hid (T.out.at HF.out HOT.out)
      generalize aggW Wc m3 _ = V0 at HT1 hHeld ⊢
      obtain ⟨hf4, hf5, hf6⟩ := HT1.out.frees
      clear hf3 hft
      refine wpAnyH_ready (rs := [14]) (by kernel_rfl) (by simp) (AllReadyH.cons (o := { dst := none, op := _, type := _, pos := _, after := _, guard := _ }) rfl (fun K hK => ?_) AllReadyH.nil)
      go_simp
      refine hK.out _ _ (HKT.out _ _ _ _ _ _ _ _ _ _ _ (HT1.out.p4 HF4.out)) (fun hHeld => ?_)
      clear hK K
      try simp only [Act.put, List.setIfInBounds_toArray, List.set_cons_zero, List.set_cons_succ]
      have HT2 := Lib.hid (HT1.out.p4 HF4.out)
      generalize aggW V0 m4 _ = V1 at HT2 hHeld ⊢
      clear hf4 hf5 hf6
      obtain ⟨hf4, hf5, hf6⟩ := HT2.out.frees
      refine wpAnyH_ready (rs := [15]) (by kernel_rfl) (by simp) (AllReadyH.cons (o := { dst := none, op := _, type := _, pos := _, after := _, guard := _ }) rfl (fun K hK => ?_) AllReadyH.nil)
      go_simp
      refine hK.out _ _ (HKT.out _ _ _ _ _ _ _ _ _ _ _ (HT2.out.p5 HF5.out)) (fun hHeld => ?_)
      clear hK K
      try simp only [Act.put, List.setIfInBounds_toArray, List.set_cons_zero, List.set_cons_succ]
      have HT3 := Lib.hid (HT2.out.p5 HF5.out)
      generalize aggW V1 m5 _ = V2 at HT3 hHeld ⊢
      clear hf4 hf5 hf6
      obtain ⟨hf4, hf5, hf6⟩ := HT3.out.frees
      refine wpAnyH_ready (rs := [16]) (by kernel_rfl) (by simp) (AllReadyH.cons (o := { dst := none, op := _, type := _, pos := _, after := _, guard := _ }) rfl (fun K hK => ?_) AllReadyH.nil)
      go_simp
      refine hK.out _ _ (HKT.out _ _ _ _ _ _ _ _ _ _ _ (HT3.out.p6 HF6.out)) (fun hHeld => ?_)
      clear hK K
      try simp only [Act.put, List.setIfInBounds_toArray, List.set_cons_zero, List.set_cons_succ]
      have HT4 := Lib.hid (HT3.out.p6 HF6.out)
      generalize aggW V2 m6 _ = V3 at HT4 hHeld ⊢
      refine wpAnyH_done (by kernel_rfl) ?_ _
      try go_wp2_with fail
      go_meet
      case rel => exact ⟨m3, m4, m5, m6, _, _, rfl, rfl, rfl, rfl, HT4.out⟩)
  case rest =>
    clear HKS HKT HBL HFR HFEW HFT HS0
    obtain ⟨m3, m4, m5, m6, u, r, rfl, rfl, rfl, rfl, hAT⟩ := hcut
    have H0 := Lib.hid hAT
    clear hAT
    obtain ⟨k4, k5, k6, z4, z5, z6⟩ := H0.out.cells
    have k4 : wc.cell? ⟨m4, 0, none⟩ = some (.bool f.1) := k4
    have k5 : wc.cell? ⟨m5, 0, none⟩ = some (.bool g.1) := k5
    have k6 : wc.cell? ⟨m6, 0, none⟩ = some (.bool o.1) := k6
    have n45 := H0.out.n45
    have n46 := H0.out.n46
    have n56 := H0.out.n56
    have n54 := n45.symm
    have n64 := n46.symm
    have n65 := n56.symm
    have H1 : Hid (AT w (((wc.setCell ⟨m4, 0, none⟩ (.bool true)).setCell ⟨m5, 0, none⟩ (.bool true)).setCell ⟨m6, 0, none⟩ (.bool true)) (awC t us ur f g o) m3 m4 m5 m6 T u r (adC (vx f)) (adC (vx g)) (adC (vx o))) := Lib.hid (((H0.out.s4 (.bool true)).s5 (.bool true)).s6 (.bool true))
    go_upto_region 3 with (fail)
    generalize World.setCell (World.setCell (World.setCell wc _ _) _ _) _ _ = W2 at H1 ⊢
    clear k4 k5 k6 z4 z5 z6 n45 n46 n56 n54 n64 n65 H0
    have HRW := Lib.hid (fun W (h : AT w W (awC t us ur f g o) m3 m4 m5 m6 T u r (adC (vx f)) (adC (vx g)) (adC (vx o))) => h.rows)
    obtain ⟨r3, r4, r5, r6⟩ := HRW.out _ H1.out
    have HG1 := Lib.hid (HGD.out W2 u r H1.out.fo.1.1 H1.out.fo.rct.rcs)
    cases hgd : good9 T with
    | false =>
      rw [hgd] at HG1
      clear hgd HY HGD
      go_wp2_with (first
        | (go_at_call 9; (with_reducible refine (HG1.out).mono ?_); rintro x w3 ⟨rfl, hb⟩; have H3 := Lib.hid (H1.out.below hb); clear hb)
        | (go_at_call 10; (with_reducible refine (HL.out _).mono ?_); rintro x w4 ⟨rfl, hb⟩; have H4 := Lib.hid (H3.out.below hb); clear hb))
      go_ret
      exact ⟨rfl, H4.out.bl⟩
    | true =>
      rw [hgd] at HG1
      obtain ⟨S, R, y1, y2, y3, y4⟩ := HY.out hgd
      have HW := Lib.hid (fun W (h : AT w W (awC t us ur f g o) m3 m4 m5 m6 T u r (adC (vx f)) (adC (vx g)) (adC (vx o))) => y1 W u r h.fo.1.1 h.fo.rct.rcs)
      have HRA := Lib.hid y2
      have HRB := Lib.hid y3
      have HFK : Hid (∀ (W : World) (us ur : Value), adOk R.1.g → AdsT W us R.1.src → RcT W ur R.1.rcs → fok (tkC R.1 us ur).toArray 26 = true) := Lib.hid fun W us ur h1 h2 h3 => fok_tk h1 h2.1.one h3.rcs.one
      have hfm := hfm26
      have HS : Hid (∀ W ca cb, Tks W ca R.1 → Tks W cb R.1 → Calls Tryz.prog 13 #[.agg ca.toArray, .agg cb.toArray] W fun x w' => x = .returned (.bool true) ∧ Below W.heap.size W w') := Lib.hid fun W ca cb h1 h2 => by
        have := same_any ca cb R.1 R.1 W h1 h2
        rw [decide_eq_true rfl] at this
        exact this
      have K2 : Hid (∀ (W : World) (m1 m2 : Nat) (u1 v1 u2 v2 : Value), TM29 w W m1 m2 R.1 R.1 u1 v1 u2 v2 → row? W m1 0 26 = some (tkC R.1 u1 v1) ∧ row? W m2 0 26 = some (tkC R.1 u2 v2)) := Lib.hid fun W m1 m2 u1 v1 u2 v2 h => ⟨h.1.tk.row, h.2.tk.row⟩
      clear hgd HY HGD y1 y2 y3
      generalize Str S = SS at *
      obtain ⟨E, hE⟩ : ∃ E, E = R.2 := ⟨_, rfl⟩
      rw [← hE] at HRA HRB y4
      clear hE
      have hee : (E == E) = true := by simp
      go_upto_region 5 with (go_at_call 9; (with_reducible refine (HG1.out).mono ?_); rintro x w3 ⟨rfl, hb⟩; have H3 := Lib.hid (H1.out.below hb); clear hb r3 r4 r5 r6; obtain ⟨r3, r4, r5, r6⟩ := HRW.out _ H3.out)
      go_upto_region 6 with (go_at_call 12; (with_reducible refine (HW.out _ H3.out).mono ?_); rintro x w4 ⟨rfl, hb⟩; have H4 := Lib.hid (H3.out.below hb); clear hb r3 r4 r5 r6; obtain ⟨r3, r4, r5, r6⟩ := HRW.out _ H4.out)
      go_upto_region 7 with (go_at_call 11; (with_reducible refine (HRA.out _).mono ?_); rintro x w5 ⟨u1, v1, rfl, hb, ho5, hs5, hr5⟩; have hft := HFK.out _ _ _ ho5 hs5 hr5; have H5 := Lib.hid (H4.out.below hb); have HM := Lib.hid (TM.made H5.out.bl ho5 hs5.1 hr5.rcs); have HX := Lib.hid (H5.out.below (aggW_below ((Below.refl w5.heap.size w5).alloc (Nat.le_refl _) (.cells #[.bool false, .int .i64 0, .int .i64 0, .int .i64 0, .bool false, .int .u8 0, .int .u8 0, .int .u8 0, .int .u8 0, .int .u8 0, .int .u8 0, .int .u8 0, .int .u8 0, .int .u8 0, .int .u8 0, .int .u8 0, .int .u8 0, .int .u8 0, .int .u8 0, .int .u8 0, .int .u8 0, .bool false, .int .i64 0, .int .i64 0, .slice none 0 0, .slice none 0 0] 28)) (Nat.le_refl _) (tkC R.1 u1 v1))); clear hb ho5 hs5 hr5 r3 r4 r5 r6)
      generalize aggW (w5.alloc (.cells #[.bool false, .int .i64 0, .int .i64 0, .int .i64 0, .bool false, .int .u8 0, .int .u8 0, .int .u8 0, .int .u8 0, .int .u8 0, .int .u8 0, .int .u8 0, .int .u8 0, .int .u8 0, .int .u8 0, .int .u8 0, .int .u8 0, .int .u8 0, .int .u8 0, .int .u8 0, .int .u8 0, .bool false, .int .i64 0, .int .i64 0, .slice none 0 0, .slice none 0 0] 28)) w5.heap.size _ = w6 at HM HX ⊢
      generalize w5.heap.size = n1 at HM HX ⊢
      clear hft
      obtain ⟨r3, r4, r5, r6⟩ := HRW.out _ HX.out
      go_upto_region 8 with (go_at_call 16; (with_reducible refine (HRB.out _).mono ?_); rintro x w7 ⟨u2, v2, rfl, hb, ho7, hs7, hr7⟩; have hft := HFK.out _ _ _ ho7 hs7 hr7; have H7 := Lib.hid ((HM.out.below hb).second9 ho7 hs7.1 hr7.rcs); clear hb ho7 hs7 hr7 r3 r4 r5 r6)
      generalize aggW (w7.alloc (.cells #[.bool false, .int .i64 0, .int .i64 0, .int .i64 0, .bool false, .int .u8 0, .int .u8 0, .int .u8 0, .int .u8 0, .int .u8 0, .int .u8 0, .int .u8 0, .int .u8 0, .int .u8 0, .int .u8 0, .int .u8 0, .int .u8 0, .int .u8 0, .int .u8 0, .int .u8 0, .int .u8 0, .bool false, .int .i64 0, .int .i64 0, .slice none 0 0, .slice none 0 0] 28)) w7.heap.size _ = w8 at H7 ⊢
      generalize w7.heap.size = n2 at H7 ⊢
      clear hft hfm HRA HRB HW HX HM
      obtain ⟨r1, r2⟩ := K2.out _ _ _ _ _ _ _ H7.out
      have HS3 := Lib.hid (HS.out _ _ _ H7.out.1.tks H7.out.2.tks)
      rcases y4 with rfl | rfl
      · go_wp2_with (first
          | (go_at_call 13; (with_reducible refine (HS3.out).mono ?_); rintro x w9 ⟨rfl, hb⟩; have H9 := Lib.hid (H7.out.below hb); clear hb r1 r2)
          | (go_at_call 10; (with_reducible refine (HL.out _).mono ?_); rintro x wa ⟨rfl, hb⟩; have Ha := Lib.hid (H9.out.below hb); clear hb))
        go_ret
        exact ⟨rfl, Ha.out.1.blw⟩
      · go_wp2_with (first
          | (go_at_call 13; (with_reducible refine (HS3.out).mono ?_); rintro x w9 ⟨rfl, hb⟩; have H9 := Lib.hid (H7.out.below hb); clear hb r1 r2)
          | (go_at_call 10; (with_reducible refine (HL.out _).mono ?_); rintro x wa ⟨rfl, hb⟩; have Ha := Lib.hid (H9.out.below hb); clear hb))
        go_ret
        exact ⟨rfl, Ha.out.1.blw⟩
end Go.Proofs.YtgpccgcppbdlpaaGreat
