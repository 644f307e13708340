/-
  Records in memory; the document's answers of layer 16.
-/
import Derived.Test.YtacnhelnpngkgaaMg28
import Derived.Test.YtacnhelnpngkgaaTr
import Derived.Test.YtacnhelnpngkgaaMg20
namespace Go.Proofs.Ytacnhelnpngkgaa
open Go.RowKit
set_option linter.unusedVariables false
set_option linter.unusedSimpArgs false
attribute [local go_sem ↓] ld_addr st_addr bld_addr ld_tk st_tk bld_tk ld_rec st_rec bld_rec rcsLit_eq
attribute [local go_sem] ldr_addr str_addr ldr_tk str_tk ldr_rec str_rec row?_drewN_eq row?_drew_eq

theorem ret_intCp {a b : Int} (h : a = b) : Ending.returned (.int .i64 a) = .returned (.int .i64 b) := by rw [h]
/-- A record alone in a block. -/
structure RcO (W : World) (b : Nat) (r : RC) (u : Value) : Prop where
  obj : ObjAt W b (rcC r u).toArray 40
  ok : adOk r.g
section
variable {W W' : World} {b : Nat} {r : RC} {u : Value}
theorem RcO.below (h : RcO W b r u) (hb : Below W.heap.size W W') : RcO W' b r u := ⟨obj_keep h.obj hb, h.ok⟩
theorem RcO.made (w : World) (r : RC) (u : Value) (ho : adOk r.g) : RcO (w.alloc (.cells (rcC r u).toArray 40)) w.heap.size r u := ⟨ObjAt.made w _ _, ho⟩
theorem RcO.kind (h : RcO W b r u) : W.cell? ⟨b, 0, none⟩ = some (.int .i64 r.kind) := by rw [ObjAt.cell h.obj]; rfl
theorem RcO.src (h : RcO W b r u) : W.cell? ⟨b, 18, none⟩ = some u := by
  rw [ObjAt.cell h.obj, List.getElem?_toArray]
  unfold rcC
  rw [show (18 : Nat) = 17 + 1 from rfl, List.getElem?_cons_succ, List.getElem?_append_right (by rw [adC_length h.ok]; omega), adC_length h.ok]
  rfl
theorem RcO.row (h : RcO W b r u) : row? W b 0 19 = some (rcC r u) := obj_re h.obj (A := []) (M := rcC r u) (C := []) (by simp) rfl (rcC_length h.ok u)
theorem RcO.grp (h : RcO W b r u) : row? W b 1 17 = some (adC r.g) := obj_re h.obj (A := [.int .i64 r.kind]) (M := adC r.g) (C := [u]) (by simp [rcC]) rfl (adC_length h.ok)
theorem rcC_set {r : RC} (ho : adOk r.g) (u v : Value) (l : List AD) : (rcC r u).set 18 v = rcC ⟨r.kind, r.g, l⟩ v := by
  unfold rcC
  rw [show (18 : Nat) = 17 + 1 from rfl, List.set_cons_succ, List.set_append_right _ _ (by rw [adC_length ho]; omega), adC_length ho]
  rfl
theorem RcO.set (h : RcO W b r u) (v : Value) (l : List AD) : RcO (W.setCell ⟨b, 18, none⟩ v) b ⟨r.kind, r.g, l⟩ v := by
  refine ⟨?_, h.ok⟩
  have := h.obj.set 18 v
  rwa [List.setIfInBounds_toArray, rcC_set h.ok u v l] at this
theorem RcO.freeS (h : RcO W b r u) : W.frozen? ⟨b, 18, none⟩ = false := h.obj.free 18
theorem RcO.free (h : RcO W b r u) : free? W b 0 19 = true := obj_free_at h.obj 0 19 (by rw [List.size_toArray, rcC_length h.ok]; omega)
end
theorem AdsT.offC {w w' : World} {v : Value} {l : List AD} {m : Nat} {L : Array Value} {T : TypeId} (h : AdsT w v l) (hm : ObjAt w m L T) (hT : T ≠ 24) (hg : w.grownBy w' (some m)) : AdsT w' v l := by
  have hf : ∀ b o n c, v = .slice (some ⟨b, o, none⟩) n c → some b ≠ some m := fun b o n c e => by
    obtain ⟨h1, cur, fz, h2⟩ := h.2 b o n c e
    intro hb
    simp only [Option.some.injEq] at hb
    subst hb
    unfold ObjAt at hm
    rw [h2] at hm
    simp only [Option.some.injEq, Obj.cells.injEq] at hm
    exact hT hm.2.1.symm
  exact ⟨h.1.grown hg hf, h.2.grown hg hf⟩
theorem setcC_grown (w : World) (m j : Nat) (v : Value) : w.grownBy (w.setCell ⟨m, j, none⟩ v) (some m) := setCells_grown m [v] j w
theorem bld_r0 (w : World) : (aggBuild 40 #[]).run Try.prog w = .ok (.agg (rcC ⟨0, zeroA, []⟩ (.slice none 0 0)).toArray) w := bld_run _ _ _ (by kernel_rfl) _
theorem bld_rk (k : Int) (a : AD) (ho : adOk a) (w : World) : (aggBuild 40 #[(0, .int .i64 k), (1, .agg (adC a).toArray)]).run Try.prog w = .ok (.agg (rcC ⟨k, a, []⟩ (.slice none 0 0)).toArray) w := by
  obtain ⟨v, l⟩ := a
  obtain ⟨b0, b1, b2, b3, b4, b5, b6, b7, b8, b9, ba, bb, bc, bd, be, bf, e⟩ := list16 (show l.length = 16 from ho)
  subst e
  exact bld_run _ _ _ (by kernel_rfl) _
/-- A slice of one record alone. -/
theorem rcs_lit (W : World) (r : RC) (u : Value) (ho : adOk r.g) (hu : Ads W u r.src) : Rcs (W.alloc (.cells (rcC r u).toArray 40)) (.slice (some ⟨W.heap.size, 0, none⟩) 1 1) [r] := by
  have h := RcO.made W r u ho
  refine ⟨_, 1, rfl, Nat.le_refl _, by unfold maxLen; omega, fun _ => ⟨_, 0, rfl, fun i hi => ?_⟩⟩
  obtain rfl : i = 0 := by simp at hi; omega
  exact ⟨ho, h.obj.lt, u, h.row, hu.below (bbox W _)⟩
set_option maxRecDepth 100000 in
theorem rlast16_any (v6 : Bool) (w : World) : Calls Try.prog 17 #[.bool v6] w fun x w' => x = .returned (.int .i64 (lastN v6)) ∧ w = w' := by
  cases v6
  · go_enter Try.func17, Try.ntmps17
    go_wp2
    go_ret
    exact ⟨rfl, rfl⟩
  · go_enter Try.func17, Try.ntmps17
    go_wp2
    go_ret
    exact ⟨rfl, rfl⟩
set_option maxRecDepth 100000 in
theorem rmode16_any (v6 : Bool) (now one two : Int) (w : World) : Calls Try.prog 15 #[.bool v6, .int .i64 now, .int .i64 one, .int .i64 two] w fun x w' => x = .returned (.int .i64 (modeC v6 now one two)) ∧ w = w' := by
  have HL := Lib.hid (fun W => rlast16_any v6 W)
  unfold modeC
  by_cases h1 : now < one
  · rw [if_pos h1]
    go_enter Try.func15, Try.ntmps15
    go_wp2
    go_ret
    exact ⟨rfl, rfl⟩
  · rw [if_neg h1]
    by_cases h2 : now < two
    · cases v6 with
      | false =>
        rw [if_pos ⟨h2, rfl⟩]
        go_enter Try.func15, Try.ntmps15
        go_wp2
        go_ret
        exact ⟨rfl, rfl⟩
      | true =>
        rw [if_neg (by simp)]
        go_enter Try.func15, Try.ntmps15
        go_wp2_with (go_at_call 17; (with_reducible refine (HL.out _).mono ?_); rintro x w1 ⟨rfl, rfl⟩)
        go_ret
        exact ⟨rfl, rfl⟩
    · rw [if_neg (fun h => h2 h.1)]
      go_enter Try.func15, Try.ntmps15
      go_wp2_with (go_at_call 17; (with_reducible refine (HL.out _).mono ?_); rintro x w1 ⟨rfl, rfl⟩)
      go_ret
      exact ⟨rfl, rfl⟩
/-- A talk boxed. -/
structure TbC (w : World) (q : TK) (us ur : Value) (W : World) : Prop where
  blw : Below w.heap.size w W
  tk : TkAt W w.heap.size q us ur
theorem TbC.keep {w : World} {q : TK} {us ur : Value} (W W' : World) (h : TbC w q us ur W) (hb : Below W.heap.size W W') : TbC w q us ur W' := ⟨bstep h.blw hb, h.tk.below hb⟩
theorem TbC.boxed (w : World) (q : TK) (us ur : Value) (ho : adOk q.g) : TbC w q us ur (w.alloc (.cells (tkC q us ur).toArray 28)) := ⟨bbox w _, TkAt.made w q us ur ho⟩

set_option maxRecDepth 100000 in
set_option maxHeartbeats 2000000 in
theorem rolder16_any (q : TK) (us ur : Value) (ho : adOk q.g) (w : World) : Calls Try.prog 13 #[.agg (tkC q us ur).toArray] w fun x w' => x = .returned (.int .i64 (oldC q)) ∧ Below w.heap.size w w' := by
  have H0 := Lib.hid (TbC.boxed w q us ur ho)
  have HL := Lib.hid (fun W => rlast16_any q.v6 W)
  obtain ⟨R, hR⟩ : ∃ R, R = oldC q := ⟨_, rfl⟩
  rw [← hR]
  have HR : Hid (R = if q.kind = 2 ∧ q.ver < lastN q.v6 then q.ver else 0) := Lib.hid hR
  clear hR ho
  have HC := Lib.hid (fun W (h : TbC w q us ur W) => (⟨h.tk.v6, h.tk.ver, h.tk.kind⟩ : W.cell? ⟨w.heap.size, 0, none⟩ = some (.bool q.v6) ∧ W.cell? ⟨w.heap.size, 1, none⟩ = some (.int .i64 q.ver) ∧ W.cell? ⟨w.heap.size, 2, none⟩ = some (.int .i64 q.kind)))
  generalize lastN q.v6 = L at *
  generalize q.v6 = v6 at HL HC
  generalize q.ver = ver at HR HC
  generalize q.kind = kind at HR HC
  go_enter Try.func13, Try.ntmps13
  go_upto_region 1 with (fail)
  generalize w.alloc _ = W at H0 ⊢
  by_cases hk : kind = 2
  · subst hk
    by_cases hv : ver < L
    · have HE : Hid (R = ver) := Lib.hid (by rw [HR.out, if_pos ⟨rfl, hv⟩])
      clear HR
      have f1 : ∀ p : InS (TbC w q us ur), p.W.cell? ⟨w.heap.size, 0, none⟩ = some (.bool v6) := fun p => (HC.out _ p.h).1
      have f2 : ∀ p : InS (TbC w q us ur), p.W.cell? ⟨w.heap.size, 1, none⟩ = some (.int .i64 ver) := fun p => (HC.out _ p.h).2.1
      have f3 : ∀ p : InS (TbC w q us ur), p.W.cell? ⟨w.heap.size, 2, none⟩ = some (.int .i64 2) := fun p => (HC.out _ p.h).2.2
      have hne : Nonempty (InS (TbC w q us ur)) := ⟨⟨_, H0.out⟩⟩
      refine wp_region_inS (TbC w q us ur) (by kernel_rfl) (by kernel_rfl) (TbC.keep _ _ H0.out (bdrewN (Below.refl _ _) 1)) ?_
      repeat (go_big_quiet_step (first
        | (go_at_call 17; with_reducible exact Calls.inS TbC.keep _ (fun W _ => (HL.out W).mono fun _ _ h => ⟨h.1, h.2 ▸ Below.refl _ _⟩))))
      refine wpQuiet_nil ?_
      rintro _ ⟨⟨W2, hS2⟩, rfl⟩
      have H2 := Lib.hid hS2
      clear hS2 hne f1 f2 f3
      obtain ⟨c0, c1, c2⟩ := HC.out _ H2.out
      go_wp2
      go_ret
      exact ⟨ret_intCp HE.out.symm, H2.out.blw⟩
    · have HE : Hid (R = 0) := Lib.hid (by rw [HR.out, if_neg (fun h => hv h.2)])
      clear HR
      have f1 : ∀ p : InS (TbC w q us ur), p.W.cell? ⟨w.heap.size, 0, none⟩ = some (.bool v6) := fun p => (HC.out _ p.h).1
      have f2 : ∀ p : InS (TbC w q us ur), p.W.cell? ⟨w.heap.size, 1, none⟩ = some (.int .i64 ver) := fun p => (HC.out _ p.h).2.1
      have f3 : ∀ p : InS (TbC w q us ur), p.W.cell? ⟨w.heap.size, 2, none⟩ = some (.int .i64 2) := fun p => (HC.out _ p.h).2.2
      have hne : Nonempty (InS (TbC w q us ur)) := ⟨⟨_, H0.out⟩⟩
      refine wp_region_inS (TbC w q us ur) (by kernel_rfl) (by kernel_rfl) (TbC.keep _ _ H0.out (bdrewN (Below.refl _ _) 1)) ?_
      repeat (go_big_quiet_step (first
        | (go_at_call 17; with_reducible exact Calls.inS TbC.keep _ (fun W _ => (HL.out W).mono fun _ _ h => ⟨h.1, h.2 ▸ Below.refl _ _⟩))))
      refine wpQuiet_nil ?_
      rintro _ ⟨⟨W2, hS2⟩, rfl⟩
      have H2 := Lib.hid hS2
      clear hS2 hne f1 f2 f3
      obtain ⟨c0, c1, c2⟩ := HC.out _ H2.out
      go_wp2
      go_ret
      exact ⟨ret_intCp HE.out.symm, H2.out.blw⟩
  · have hd : (kind == 2) = false := by simpa using hk
    have HE : Hid (R = 0) := Lib.hid (by rw [HR.out, if_neg (fun h => hk h.1)])
    clear HR hk
    have f1 : ∀ p : InS (TbC w q us ur), p.W.cell? ⟨w.heap.size, 0, none⟩ = some (.bool v6) := fun p => (HC.out _ p.h).1
    have f2 : ∀ p : InS (TbC w q us ur), p.W.cell? ⟨w.heap.size, 1, none⟩ = some (.int .i64 ver) := fun p => (HC.out _ p.h).2.1
    have f3 : ∀ p : InS (TbC w q us ur), p.W.cell? ⟨w.heap.size, 2, none⟩ = some (.int .i64 kind) := fun p => (HC.out _ p.h).2.2
    have hne : Nonempty (InS (TbC w q us ur)) := ⟨⟨_, H0.out⟩⟩
    refine wp_region_inS (TbC w q us ur) (by kernel_rfl) (by kernel_rfl) (TbC.keep _ _ H0.out (bdrewN (Below.refl _ _) 1)) ?_
    repeat (go_big_quiet_step (first
      | (go_at_call 17; with_reducible exact Calls.inS TbC.keep _ (fun W _ => (HL.out W).mono fun _ _ h => ⟨h.1, h.2 ▸ Below.refl _ _⟩))))
    refine wpQuiet_nil ?_
    rintro _ ⟨⟨W2, hS2⟩, rfl⟩
    have H2 := Lib.hid hS2
    clear hS2 hne f1 f2 f3
    obtain ⟨c0, c1, c2⟩ := HC.out _ H2.out
    go_wp2
    go_ret
    exact ⟨ret_intCp HE.out.symm, H2.out.blw⟩
set_option maxRecDepth 100000 in
set_option maxHeartbeats 2000000 in
theorem rrecs16_any (q : TK) (us ur : Value) (ho : adOk q.g) (w : World) (hr : Rcs w ur q.rcs) : Calls Try.prog 11 #[.agg (tkC q us ur).toArray] w fun x w' => ∃ v, x = .returned v ∧ Below w.heap.size w w' ∧ Rcs w' v (recsC q) := by
  have H0 := Lib.hid (TbC.boxed w q us ur ho)
  have HL := Lib.hid (fun W => rlast16_any q.v6 W)
  have HRC := Lib.hid (fun W (h : TbC w q us ur W) => hr.below h.blw)
  have HN := Lib.hid ho
  obtain ⟨R, hR⟩ : ∃ R, R = recsC q := ⟨_, rfl⟩
  rw [← hR]
  have HR : Hid (R = if q.kind = 3 then [⟨3, q.g, []⟩] else if q.kind ≠ 2 then [] else if q.ver = lastN q.v6 then q.rcs else [⟨2, q.g, []⟩]) := Lib.hid hR
  have hb3 := fun w0 => bld_rk 3 q.g ho w0
  have hb2 := fun w0 => bld_rk 2 q.g ho w0
  have hl3 := fun w0 => rcsLit_run ⟨3, q.g, []⟩ ho none 0 0 w0
  have hl2 := fun w0 => rcsLit_run ⟨2, q.g, []⟩ ho none 0 0 w0
  clear hR ho hr
  have HC := Lib.hid (fun W (h : TbC w q us ur W) => (⟨h.tk.v6, h.tk.ver, h.tk.kind, h.tk.rg, h.tk.ur⟩ : W.cell? ⟨w.heap.size, 0, none⟩ = some (.bool q.v6) ∧ W.cell? ⟨w.heap.size, 1, none⟩ = some (.int .i64 q.ver) ∧ W.cell? ⟨w.heap.size, 2, none⟩ = some (.int .i64 q.kind) ∧ row? W w.heap.size 4 17 = some (adC q.g) ∧ W.cell? ⟨w.heap.size, 25, none⟩ = some ur))
  generalize lastN q.v6 = L at *
  generalize q.v6 = v6 at HL HC
  generalize q.ver = ver at HR HC
  generalize q.kind = kind at HR HC
  generalize q.g = g at HR HC HN hb3 hb2 hl3 hl2
  generalize q.rcs = rs at HR HRC
  go_enter Try.func11, Try.ntmps11
  go_upto_region 1 with (fail)
  generalize w.alloc _ = W at H0 ⊢
  by_cases h3 : kind = 3
  · subst h3
    have HE : Hid (R = [⟨3, g, []⟩]) := Lib.hid (by rw [HR.out, if_pos rfl])
    clear HR
    obtain ⟨c0, c1, c2, c3, c4⟩ := HC.out _ H0.out
    go_wp2
    go_ret
    exact ⟨_, rfl, bstep H0.out.blw (bbox W _), by rw [HE.out]; exact rcs_lit W ⟨3, g, []⟩ _ HN.out (Ads.nil W)⟩
  have hd3 : (kind == 3) = false := by simpa using h3
  by_cases h2 : kind = 2
  · subst h2
    obtain ⟨c0, c1, c2, c3, c4⟩ := HC.out _ H0.out
    by_cases hv : ver = L
    · subst hv
      have HE : Hid (R = rs) := Lib.hid (by rw [HR.out, if_neg (by decide), if_neg (by simp), if_pos rfl])
      clear HR
      have hd : (ver == ver) = true := by simp
      go_upto_region 5 with (fail)
      clear c0 c1 c2 c3 c4
      have f1 : ∀ p : InS (TbC w q us ur), p.W.cell? ⟨w.heap.size, 0, none⟩ = some (.bool v6) := fun p => (HC.out _ p.h).1
      have f2 : ∀ p : InS (TbC w q us ur), p.W.cell? ⟨w.heap.size, 1, none⟩ = some (.int .i64 ver) := fun p => (HC.out _ p.h).2.1
      have hne : Nonempty (InS (TbC w q us ur)) := ⟨⟨_, H0.out⟩⟩
      refine wp_region_inS (TbC w q us ur) (by kernel_rfl) (by kernel_rfl) (TbC.keep _ _ H0.out (bdrewN (Below.refl _ _) 1)) ?_
      repeat (go_big_quiet_step (first
        | (go_at_call 17; with_reducible exact Calls.inS TbC.keep _ (fun W _ => (HL.out W).mono fun _ _ h => ⟨h.1, h.2 ▸ Below.refl _ _⟩))))
      refine wpQuiet_nil ?_
      rintro _ ⟨⟨W2, hS2⟩, rfl⟩
      have H2 := Lib.hid hS2
      clear hS2 hne f1 f2
      obtain ⟨c0, c1, c2, c3, c4⟩ := HC.out _ H2.out
      go_wp2
      go_ret
      exact ⟨_, rfl, H2.out.blw, by rw [HE.out]; exact HRC.out _ H2.out⟩
    · have hd : (ver == L) = false := by simpa using hv
      have HE : Hid (R = [⟨2, g, []⟩]) := Lib.hid (by rw [HR.out, if_neg (by decide), if_neg (by simp), if_neg hv])
      clear HR hv
      go_upto_region 5 with (fail)
      clear c0 c1 c2 c3 c4
      have f1 : ∀ p : InS (TbC w q us ur), p.W.cell? ⟨w.heap.size, 0, none⟩ = some (.bool v6) := fun p => (HC.out _ p.h).1
      have f2 : ∀ p : InS (TbC w q us ur), p.W.cell? ⟨w.heap.size, 1, none⟩ = some (.int .i64 ver) := fun p => (HC.out _ p.h).2.1
      have hne : Nonempty (InS (TbC w q us ur)) := ⟨⟨_, H0.out⟩⟩
      refine wp_region_inS (TbC w q us ur) (by kernel_rfl) (by kernel_rfl) (TbC.keep _ _ H0.out (bdrewN (Below.refl _ _) 1)) ?_
      repeat (go_big_quiet_step (first
        | (go_at_call 17; with_reducible exact Calls.inS TbC.keep _ (fun W _ => (HL.out W).mono fun _ _ h => ⟨h.1, h.2 ▸ Below.refl _ _⟩))))
      refine wpQuiet_nil ?_
      rintro _ ⟨⟨W2, hS2⟩, rfl⟩
      have H2 := Lib.hid hS2
      clear hS2 hne f1 f2
      obtain ⟨c0, c1, c2, c3, c4⟩ := HC.out _ H2.out
      go_wp2
      go_ret
      exact ⟨_, rfl, bstep H2.out.blw (bbox _ _), by rw [HE.out]; exact rcs_lit _ ⟨2, g, []⟩ _ HN.out (Ads.nil _)⟩
  have hd2 : (kind != 2) = true := by simpa using h2
  have HE : Hid (R = []) := Lib.hid (by rw [HR.out, if_neg h3, if_pos h2])
  clear HR h2 h3
  obtain ⟨c0, c1, c2, c3, c4⟩ := HC.out _ H0.out
  go_wp2
  go_ret
  exact ⟨_, rfl, H0.out.blw, by rw [HE.out]; exact Rcs.nil _⟩
/-- A record boxed, and the result. -/
structure CtB (w : World) (r : RC) (u : Value) (W : World) : Prop where
  blw : Below w.heap.size w W
  one : RcO W w.heap.size r u
  res : ObjAt W (w.heap.size + 1) #[.int .i64 0, .bool false, .int .u8 0, .int .u8 0, .int .u8 0, .int .u8 0, .int .u8 0, .int .u8 0, .int .u8 0, .int .u8 0, .int .u8 0, .int .u8 0, .int .u8 0, .int .u8 0, .int .u8 0, .int .u8 0, .int .u8 0, .int .u8 0, .slice none 0 0] 40
theorem CtB.boxed (w : World) (r : RC) (u : Value) (ho : adOk r.g) : CtB w r u ((w.alloc (.cells (rcC r u).toArray 40)).alloc (.cells #[.int .i64 0, .bool false, .int .u8 0, .int .u8 0, .int .u8 0, .int .u8 0, .int .u8 0, .int .u8 0, .int .u8 0, .int .u8 0, .int .u8 0, .int .u8 0, .int .u8 0, .int .u8 0, .int .u8 0, .int .u8 0, .int .u8 0, .int .u8 0, .slice none 0 0] 40)) := by
  have h := Bx.made w (rcC r u).toArray 40 #[.int .i64 0, .bool false, .int .u8 0, .int .u8 0, .int .u8 0, .int .u8 0, .int .u8 0, .int .u8 0, .int .u8 0, .int .u8 0, .int .u8 0, .int .u8 0, .int .u8 0, .int .u8 0, .int .u8 0, .int .u8 0, .int .u8 0, .int .u8 0, .slice none 0 0] 40
  exact ⟨h.blw, ⟨h.one, ho⟩, h.two⟩
theorem CtB.keep {w : World} {r : RC} {u : Value} (W W' : World) (h : CtB w r u W) (hb : Below W.heap.size W W') : CtB w r u W' := ⟨bstep h.blw hb, h.one.below hb, obj_keep h.res hb⟩
theorem CtB.set {w W : World} {r : RC} {u : Value} (h : CtB w r u W) (v : Value) (l : List AD) : CtB w ⟨r.kind, r.g, l⟩ v (W.setCell ⟨w.heap.size, 18, none⟩ v) :=
  ⟨h.blw.setCell (p := ⟨w.heap.size, 18, none⟩) (by simp) v, h.one.set v l, h.res.other _ _ (by simp)⟩
theorem CtB.freeR {w W : World} {r : RC} {u : Value} (h : CtB w r u W) : free? W (w.heap.size + 1) 0 19 = true := obj_free_at h.res 0 19 (Nat.le_refl _)
set_option maxRecDepth 100000 in
set_option maxHeartbeats 4000000 in
theorem rcut16_any (v6 : Bool) (m : Int) (r : RC) (u : Value) (ho : adOk r.g) (w : World) (hu : AdsT w u r.src) : Calls Try.prog 20 #[.bool v6, .int .i64 m, .agg (rcC r u).toArray] w fun x w' => ∃ u', x = .returned (.tuple #[.agg (rcC (cutC v6 m r) u').toArray, .bool (cutIs v6 m r)]) ∧ Below w.heap.size w w' ∧ AdsT w' u' (cutC v6 m r).src := by
  have H0 := Lib.hid (CtB.boxed w r u ho)
  have HL := Lib.hid (fun W => rlast16_any v6 W)
  have HU := Lib.hid (fun W (h : Below w.heap.size w W) => hu.below h)
  have HK := Lib.hid ho
  have hone : u.oneCell' = true := hu.1.one
  have hfk : ∀ (r : RC) (u : Value), adOk r.g → u.oneCell' = true → fok (rcC r u).toArray 19 = true := fun r u h1 h2 => fok_rec h1 h2
  have hf1 := hfk r u ho hone
  have hf2 := hfk ⟨r.kind, r.g, []⟩ (.slice none 0 0) ho rfl
  have hf3 := hfk ⟨0, zeroA, []⟩ (.slice none 0 0) zeroA_ok rfl
  have hb0 := fun w0 => bld_r0 w0
  have hrl : ∀ (r : RC) (u : Value), adOk r.g → (rcC r u).length = 19 := fun r u h => rcC_length h u
  have HRL := Lib.hid hrl
  obtain ⟨c, hc⟩ : ∃ c, c = cutC v6 m r := ⟨_, rfl⟩
  obtain ⟨i, hi⟩ : ∃ i, i = cutIs v6 m r := ⟨_, rfl⟩
  rw [← hc, ← hi]
  have HI : Hid (i = !(decide (m < lastN v6) && (decide (r.kind = 6) || (decide (r.kind = 3) && (decide (m = 1) && !v6))))) := Lib.hid hi
  have HC : Hid (c = if i then (if m < lastN v6 ∧ r.kind = 4 then ⟨4, r.g, []⟩ else r) else ⟨0, zeroA, []⟩) := Lib.hid (by rw [hc, hi]; rfl)
  clear hc hi hfk hrl ho hu hone
  have HF := Lib.hid (fun (r : RC) (u : Value) (W : World) (h : CtB w r u W) => (⟨h.one.kind, h.one.row, h.one.freeS, h.one.src, h.freeR⟩ : W.cell? ⟨w.heap.size, 0, none⟩ = some (.int .i64 r.kind) ∧ row? W w.heap.size 0 19 = some (rcC r u) ∧ W.frozen? ⟨w.heap.size, 18, none⟩ = false ∧ W.cell? ⟨w.heap.size, 18, none⟩ = some u ∧ free? W (w.heap.size + 1) 0 19 = true))
  go_enter Try.func20, Try.ntmps20
  go_upto_region 1 with (fail)
  generalize (w.alloc _).alloc _ = W at H0 ⊢
  generalize lastN v6 = L at *
  by_cases hm : m < L
  · by_cases h6 : r.kind = 6
    · have HJ : Hid (i = false) := Lib.hid (by rw [HI.out, decide_eq_true hm, decide_eq_true h6]; rfl)
      have HE : Hid (c = ⟨0, zeroA, []⟩) := Lib.hid (by rw [HC.out, HJ.out]; rfl)
      clear HI HC
      obtain ⟨c0, r0, f0, s0, ff⟩ := HF.out _ _ _ H0.out
      rw [h6] at c0
      clear h6
      go_wp2_with (go_at_call 17; (with_reducible refine (HL.out _).mono ?_); rintro x w1 ⟨rfl, rfl⟩)
      obtain ⟨y1, y2⟩ := resDone H0.out.res H0.out.blw (by omega) (rcC ⟨0, zeroA, []⟩ (.slice none 0 0)) (by rw [HRL.out ⟨0, zeroA, []⟩ _ (zeroA_ok)]; rfl)
      exact bodyPost_ret (results_cell2 Try.results20 rfl (ld_some y1 (ldr_rec _ _ _))) rfl ⟨_, by rw [HE.out, HJ.out]; rfl, y2, by rw [HE.out]; exact ⟨Ads.nil _, fun b o n c e => by cases e⟩⟩
    have hd6 : (r.kind == 6) = false := by simpa using h6
    by_cases hx : r.kind = 3 ∧ m = 1 ∧ v6 = false
    · obtain ⟨h3, rfl, rfl⟩ := hx
      have HJ : Hid (i = false) := Lib.hid (by rw [HI.out, decide_eq_true hm, decide_eq_true h3]; simp)
      have HE : Hid (c = ⟨0, zeroA, []⟩) := Lib.hid (by rw [HC.out, HJ.out]; rfl)
      clear HI HC
      obtain ⟨c0, r0, f0, s0, ff⟩ := HF.out _ _ _ H0.out
      rw [h3] at c0
      clear h3 h6 hd6
      go_wp2_with (go_at_call 17; (with_reducible refine (HL.out _).mono ?_); rintro x w1 ⟨rfl, rfl⟩)
      obtain ⟨y1, y2⟩ := resDone H0.out.res H0.out.blw (by omega) (rcC ⟨0, zeroA, []⟩ (.slice none 0 0)) (by rw [HRL.out ⟨0, zeroA, []⟩ _ (zeroA_ok)]; rfl)
      exact bodyPost_ret (results_cell2 Try.results20 rfl (ld_some y1 (ldr_rec _ _ _))) rfl ⟨_, by rw [HE.out, HJ.out]; rfl, y2, by rw [HE.out]; exact ⟨Ads.nil _, fun b o n c e => by cases e⟩⟩
    have HJ : Hid (i = true) := Lib.hid (by
      rw [HI.out, decide_eq_false h6]
      by_cases q3 : r.kind = 3
      · by_cases q1 : m = 1
        · cases hv : v6
          · exact absurd ⟨q3, q1, hv⟩ hx
          · simp
        · simp [q1]
      · simp [q3])
    by_cases h4 : r.kind = 4
    · have HE : Hid (c = ⟨r.kind, r.g, []⟩) := Lib.hid (by rw [HC.out, HJ.out, if_pos rfl, if_pos ⟨hm, h4⟩, h4])
      have hd3 : (r.kind == 3) = false := by rw [h4]; rfl
      have h4c : (r.kind == 4) = true := by rw [h4]; rfl
      clear HI HC h6 hx h4
      obtain ⟨c0, r0, f0, s0, ff⟩ := HF.out _ _ _ H0.out
      go_upto_region 6 with (go_at_call 17; (with_reducible refine (HL.out _).mono ?_); rintro x w1 ⟨rfl, rfl⟩)
      have H1 := Lib.hid (H0.out.set (.slice none 0 0) [])
      generalize World.setCell _ _ _ = W1 at H1 ⊢
      clear c0 r0 f0 s0 ff H0
      obtain ⟨c0, r0, f0, s0, ff⟩ := HF.out _ _ _ H1.out
      go_wp2_with (go_at_call 17; (with_reducible refine (HL.out _).mono ?_); rintro x w1 ⟨rfl, rfl⟩)
      obtain ⟨y1, y2⟩ := resDone H1.out.res H1.out.blw (by omega) (rcC ⟨r.kind, r.g, []⟩ (.slice none 0 0)) (by rw [HRL.out ⟨r.kind, r.g, []⟩ _ (HK.out)]; rfl)
      exact bodyPost_ret (results_cell2 Try.results20 rfl (ld_some y1 (ldr_rec _ _ _))) rfl ⟨_, by rw [HE.out, HJ.out]; rfl, y2, by rw [HE.out]; exact ⟨Ads.nil _, fun b o n c e => by cases e⟩⟩
    · have HE : Hid (c = r) := Lib.hid (by rw [HC.out, HJ.out, if_pos rfl, if_neg (fun h => h4 h.2)])
      have hd4 : (r.kind == 4) = false := by simpa using h4
      clear HI HC h6 h4
      obtain ⟨c0, r0, f0, s0, ff⟩ := HF.out _ _ _ H0.out
      by_cases h3 : r.kind = 3
      · have hd3 : (r.kind == 3) = true := by simpa using h3
        by_cases h1 : m = 1
        · subst h1
          have hv : v6 = true := by cases hv : v6 with | true => rfl | false => exact absurd ⟨h3, rfl, hv⟩ hx
          subst hv
          clear h3 hx
          go_wp2_with (go_at_call 17; (with_reducible refine (HL.out _).mono ?_); rintro x w1 ⟨rfl, rfl⟩)
          obtain ⟨y1, y2⟩ := resDone H0.out.res H0.out.blw (by omega) (rcC r u) (by rw [HRL.out _ _ (HK.out)]; rfl)
          exact bodyPost_ret (results_cell2 Try.results20 rfl (ld_some y1 (ldr_rec _ _ _))) rfl ⟨_, by rw [HE.out, HJ.out]; rfl, y2, by rw [HE.out]; exact HU.out _ y2⟩
        · have hd1 : (m == 1) = false := by simpa using h1
          clear h3 hx h1
          go_wp2_with (go_at_call 17; (with_reducible refine (HL.out _).mono ?_); rintro x w1 ⟨rfl, rfl⟩)
          obtain ⟨y1, y2⟩ := resDone H0.out.res H0.out.blw (by omega) (rcC r u) (by rw [HRL.out _ _ (HK.out)]; rfl)
          exact bodyPost_ret (results_cell2 Try.results20 rfl (ld_some y1 (ldr_rec _ _ _))) rfl ⟨_, by rw [HE.out, HJ.out]; rfl, y2, by rw [HE.out]; exact HU.out _ y2⟩
      · have hd3 : (r.kind == 3) = false := by simpa using h3
        clear h3 hx
        go_wp2_with (go_at_call 17; (with_reducible refine (HL.out _).mono ?_); rintro x w1 ⟨rfl, rfl⟩)
        obtain ⟨y1, y2⟩ := resDone H0.out.res H0.out.blw (by omega) (rcC r u) (by rw [HRL.out _ _ (HK.out)]; rfl)
        exact bodyPost_ret (results_cell2 Try.results20 rfl (ld_some y1 (ldr_rec _ _ _))) rfl ⟨_, by rw [HE.out, HJ.out]; rfl, y2, by rw [HE.out]; exact HU.out _ y2⟩
  · have HJ : Hid (i = true) := Lib.hid (by rw [HI.out, decide_eq_false hm]; rfl)
    have HE : Hid (c = r) := Lib.hid (by rw [HC.out, HJ.out, if_pos rfl, if_neg (fun h => hm h.1)])
    clear HI HC
    obtain ⟨c0, r0, f0, s0, ff⟩ := HF.out _ _ _ H0.out
    go_wp2_with (go_at_call 17; (with_reducible refine (HL.out _).mono ?_); rintro x w1 ⟨rfl, rfl⟩)
    obtain ⟨y1, y2⟩ := resDone H0.out.res H0.out.blw (by omega) (rcC r u) (by rw [HRL.out _ _ (HK.out)]; rfl)
    exact bodyPost_ret (results_cell2 Try.results20 rfl (ld_some y1 (ldr_rec _ _ _))) rfl ⟨_, by rw [HE.out, HJ.out]; rfl, y2, by rw [HE.out]; exact HU.out _ y2⟩
end Go.Proofs.Ytacnhelnpngkgaa
