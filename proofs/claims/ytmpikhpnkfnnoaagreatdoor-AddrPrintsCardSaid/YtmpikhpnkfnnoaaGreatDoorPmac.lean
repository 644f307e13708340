/-
  The contract of addr.ParseMac.
-/
import Derived.Test.YtmpikhpnkfnnoaaGreatDoorRprm
import Derived.Test.YtmpikhpnkfnnoaaGreatDoorOctUnb
import Derived.Test.YtmpikhpnkfnnoaaGreatDoorRough
import Derived.Lib.LazyBuf
import Derived.Lib.Replace
namespace Go.Proofs.YtmpikhpnkfnnoaaGreatDoor
open Go.RowKit
set_option linter.unusedVariables false
attribute [local go_sem ↓] bld_mac ld_mac st_mac
attribute [local go_sem] ldr_mac str_mac

theorem replaceK_len (old : List UInt8) : ∀ (k : Nat) (s : List UInt8), (Lib.replaceK old [] k s).length ≤ s.length
  | 0, s => Nat.le_refl _
  | k + 1, s => by
    rw [Lib.replaceK]
    split
    · exact Nat.le_refl _
    · have ih := replaceK_len old k (s.drop ((Lib.index s old).toNat + old.length))
      rw [List.length_drop] at ih
      simp only [List.append_nil, List.length_append, List.length_take]
      omega
def repV (s : List UInt8) : List UInt8 := Lib.replaceAll s [58] []
theorem repV_len (s : List UInt8) : (repV s).length ≤ s.length := by
  unfold repV Lib.replaceAll Lib.replace
  split
  · exact Nat.le_refl _
  · exact replaceK_len _ _ _
theorem replace_any (s : List UInt8) (hs : s.length ≤ 1000) (w : World) (h : Env w) : Calls Tryz.prog 37 #[.string (Str s), .string ⟨#[58]⟩, .string ⟨#[]⟩] w fun e w' => e = .returned (.string (Str (repV s))) ∧ Below w.heap.size w w' := by
  obtain ⟨m, hm⟩ := h.ml
  exact Tryz.strings_ReplaceAll (Str s) ⟨#[58]⟩ ⟨#[]⟩ m w (by rw [Str_size]; omega) hm (by decide) (by rw [Str_size, show (⟨#[]⟩ : ByteArray).size = 0 from rfl]; omega)
theorem run_copy_cut {P : Program} (w : World) (dT sT ty elem : TypeId) (b o dLen dCap : Nat) (l : List UInt8)
    (hu : P.underlying dT = some (.slice elem)) (hz : ∀ w, (Go.sizeOf elem).run P w = .ok 1 w) (hle : dLen < l.length)
    (hc : ∀ j, j < dLen → (w.cell? ⟨b, o + j, none⟩).isSome = true) (hf : ∀ j, j < dLen → w.frozen? ⟨b, o + j, none⟩ = false) :
    (Builtin.copy_ #[dT, sT] ty #[.slice (some ⟨b, o, none⟩) dLen dCap, .string (Str l)]).run P w = .ok (goInt dLen) (w.setCells b o (B8 (l.take dLen))) := by
  have hmin : Nat.min (Str l).size dLen = dLen := Nat.min_eq_right (by rw [Str_size]; omega)
  have hl : (B8 (l.take dLen)).length = dLen := by rw [B8_length, List.length_take]; omega
  have hst := run_storeCells_cells (P := P) b o (B8 (l.take dLen)) 0 w (by rw [hl]; simpa using hc) (by rw [hl]; simpa using hf) (B8_one _)
  simp [Builtin.copy_, run_underlying hu, Builtin.lenOf, Builtin.firstCells, hz, hmin]
  have e : List.take dLen (List.map (fun x => Value.int IntKind.u8 (x.toNat : Int)) l) = B8 (l.take dLen) := by unfold B8; rw [List.map_take]
  rw [Str_data, e, hst]
  rfl
/-- The contract's two blocks: the result's, and the address that is filled. -/
def PM (w W : World) (M : List UInt8) : Prop := ObjAt W w.heap.size (B8 [0, 0, 0, 0, 0, 0]).toArray 28 ∧ ObjAt W (w.heap.size + 1) (B8 M).toArray 28 ∧ M.length = 6 ∧ Below w.heap.size w W
theorem PM.start (w : World) : PM w ((w.alloc (.cells (B8 [0, 0, 0, 0, 0, 0]).toArray 28)).alloc (.cells (B8 [0, 0, 0, 0, 0, 0]).toArray 28)) [0, 0, 0, 0, 0, 0] := by
  refine ⟨(ObjAt.made w _ _).alloc _, ?_, rfl, ((Below.refl _ _).alloc (Nat.le_refl _) _).alloc (by simp) _⟩
  have := ObjAt.made (w.alloc (.cells (B8 [0, 0, 0, 0, 0, 0]).toArray 28)) (B8 [0, 0, 0, 0, 0, 0]).toArray 28
  rw [show (w.alloc (.cells (B8 [0, 0, 0, 0, 0, 0]).toArray 28)).heap.size = w.heap.size + 1 by simp] at this
  exact this
theorem PM.below {w W W' : World} {M : List UInt8} (h : PM w W M) (hb : Below W.heap.size W W') : PM w W' M := ⟨h.1.below hb h.1.lt, h.2.1.below hb h.2.1.lt, h.2.2.1, bstep h.2.2.2 hb⟩
theorem PM.row {w W : World} {M : List UInt8} (h : PM w W M) : row? W (w.heap.size + 1) 0 6 = some (B8 M) := obj_row (A := []) (M := B8 M) (C := []) (by simpa using h.2.1) rfl (by rw [B8_length, h.2.2.1])
theorem PM.free {w W : World} {M : List UInt8} (h : PM w W M) : free? W w.heap.size 0 6 = true := obj_free h.1 (by simp [B8_length])
theorem PM.done {w W : World} {M : List UInt8} (h : PM w W M) (R : List UInt8) (hR : R.length = 6) : row? (aggW W w.heap.size (B8 R)) w.heap.size 0 6 = some (B8 R) ∧ Below w.heap.size w (aggW W w.heap.size (B8 R)) :=
  ⟨aggW_row h.free (by rw [B8_length, hR]), aggW_below h.2.2.2 (Nat.le_refl _) _⟩
/-- What is copied into an address. -/
def pm6 (b : List UInt8) : List UInt8 := b.take 6 ++ List.replicate (6 - b.length) 0
theorem pm6_length (b : List UInt8) : (pm6 b).length = 6 := by unfold pm6; simp; omega
theorem PM.copied {w W : World} (h : PM w W [0, 0, 0, 0, 0, 0]) (b : List UInt8) : PM w (aggO W (w.heap.size + 1) 0 (B8 (b.take 6))) (pm6 b) := by
  obtain ⟨h1, h2, _, h4⟩ := h
  have o1 := aggO_obj (o := 0) (cs := B8 (b.take 6)) h2 (by simp [B8_length]; omega) (B8_one _)
  have e : over (B8 [0, 0, 0, 0, 0, 0]) 0 (B8 (b.take 6)) = B8 (pm6 b) := by
    rw [show ([0, 0, 0, 0, 0, 0] : List UInt8) = List.replicate 6 0 from rfl]
    unfold over pm6
    rw [B8_append, B8_length, B8_replicate, B8_replicate, Nat.zero_add, List.drop_replicate, List.length_take]
    rw [show 6 - min 6 b.length = 6 - b.length by omega]
    rfl
  rw [e] at o1
  exact ⟨aggO_other h1 _ (by omega), o1, pm6_length b, aggO_below h4 (by omega) _ _⟩
theorem wpList_copy_all {w : World} {ops : Array Oper} {rest : List Oper} {o : Oper} {a : Act} {Q : Exit → Act → World → Prop} (hgd : o.guard = none) (d s : Operand) (dT sT : TypeId)
    (ho : o.op = .call { callee := .builtin .copy, args := #[d, s], argTypes := #[dT, sT] }) (hu : Tryz.prog.underlying dT = some (.slice 5))
    (b dLen dCap : Nat) (hd : a.eval d = .slice (some ⟨b, 0, none⟩) dLen dCap) (l : List UInt8) (hs : a.eval s = .string (Str l))
    (L : List Value) (t : TypeId) (hg : ObjAt w b L.toArray t) (hfit : dLen ≤ L.length)
    (h : ∀ v, wpList Tryz.prog ops Q rest (a.put o.dst v) (aggO w b 0 (B8 (l.take dLen)))) : wpList Tryz.prog ops Q (o :: rest) a w := by
  by_cases hle : l.length ≤ dLen
  · refine wpList_copy_str hgd d s dT sT ho hu b 0 dLen dCap hd l hs hle L t hg (by omega) ?_
    have := h (goInt l.length)
    rw [List.take_of_length_le hle] at this
    exact this
  · refine wpList_plain hgd fun K hK => ?_
    have hz : ∀ w, (Go.sizeOf 5).run Tryz.prog w = .ok 1 w := fun w => by
      obtain ⟨i, hi⟩ := info_of_underlying Tryz.underlying5
      have hs : (Tryz.prog.info? 5).map (·.size) = some 1 := by kernel_rfl
      rw [hi] at hs
      simp at hs
      simp [sizeOf, typeInfo, hi, hs]
    have hrun := run_copy_cut (P := Tryz.prog) w dT sT o.type 5 b 0 dLen dCap l hu hz (by omega) (fun j hj => by rw [hg.cell]; simp; omega) (fun j hj => hg.free _)
    rw [← aggO_eq] at hrun
    unfold Oper.wp
    simp [execOp, ho, resolve, invoke, builtin, hd, hs, hrun, Result.andThen]
    exact hK _ _ (h _)
def pmV (s : List UInt8) : Option (List UInt8) :=
  if s.length = 17 then (match unhexV (repV s) with
    | some b => if macT (pm6 b) = s then some (pm6 b) else none
    | none => none) else none
theorem zeroMac17 : (macT [0, 0, 0, 0, 0, 0]).length = 17 := by decide

set_option maxRecDepth 100000 in
set_option maxHeartbeats 2000000 in
theorem pm_len (s : List UInt8) (hs : s.length ≠ 17) (hs2 : s.length ≤ 1000) (w : World) (h : Env w) : Calls Tryz.prog 27 #[.string (Str s)] w fun x w' => x = .returned (.tuple #[.agg (B8 [0, 0, 0, 0, 0, 0]).toArray, .int .i64 2]) ∧ Below w.heap.size w w' := by
  have HE := Lib.hid h; clear h
  have h0 := PM.start w
  rw [show (B8 [0, 0, 0, 0, 0, 0]).toArray = #[.int .u8 0, .int .u8 0, .int .u8 0, .int .u8 0, .int .u8 0, .int .u8 0] from rfl] at h0
  have H0 := Lib.hid h0; clear h0
  have hsz := Str_size s
  have HP : Hid (∀ W, Calls Tryz.prog 30 #[.agg (B8 [0, 0, 0, 0, 0, 0]).toArray] W fun x w' => x = .returned (.string (Str (macT [0, 0, 0, 0, 0, 0]))) ∧ Below W.heap.size W w') := Lib.hid fun W => printMac_any [0, 0, 0, 0, 0, 0] rfl W
  have hz17 : (Str (macT [0, 0, 0, 0, 0, 0])).size = 17 := by rw [Str_size, zeroMac17]
  generalize Str (macT [0, 0, 0, 0, 0, 0]) = Z at HP hz17
  have hokz := fok_bytes [0, 0, 0, 0, 0, 0] 6 rfl
  have hbld : ∀ w0, (aggBuild 28 #[]).run Tryz.prog w0 = .ok (.agg (B8 [0, 0, 0, 0, 0, 0]).toArray) w0 := bld_run _ _ _ (by kernel_rfl)
  have hne : ((s.length : Int) != 17) = true := by simp; omega
  clear hs
  go_enter Tryz.func27, Tryz.ntmps27
  go_upto_region 2 with (fail)
  generalize (w.alloc (.cells #[.int .u8 0, .int .u8 0, .int .u8 0, .int .u8 0, .int .u8 0, .int .u8 0] 28)).alloc (.cells #[.int .u8 0, .int .u8 0, .int .u8 0, .int .u8 0, .int .u8 0, .int .u8 0] 28) = W at H0 ⊢
  have hr := H0.out.row
  go_wp2_with (go_at_call 30; (with_reducible refine (HP.out _).mono ?_); rintro x w1 ⟨rfl, hb1⟩; have H1 := Lib.hid (H0.out.below hb1); clear hb1 hr; have hf := H1.out.free)
  obtain ⟨q1, q2⟩ := H1.out.done [0, 0, 0, 0, 0, 0] rfl
  exact bodyPost_ret (results_cell2 Tryz.results27 rfl (ld_some q1 (ldr_mac _ _ _))) rfl ⟨rfl, q2⟩

set_option maxRecDepth 100000 in
set_option maxHeartbeats 2000000 in
theorem pm_bad (s : List UInt8) (hs : s.length = 17) (hu : unhexV (repV s) = none) (w : World) (h : Env w) : Calls Tryz.prog 27 #[.string (Str s)] w fun x w' => x = .returned (.tuple #[.agg (B8 [0, 0, 0, 0, 0, 0]).toArray, .int .i64 2]) ∧ Below w.heap.size w w' := by
  have HE := Lib.hid h; clear h
  have h0 := PM.start w
  rw [show (B8 [0, 0, 0, 0, 0, 0]).toArray = #[.int .u8 0, .int .u8 0, .int .u8 0, .int .u8 0, .int .u8 0, .int .u8 0] from rfl] at h0
  have H0 := Lib.hid h0; clear h0
  have hsz := Str_size s
  have HP : Hid (∀ W, Calls Tryz.prog 30 #[.agg (B8 [0, 0, 0, 0, 0, 0]).toArray] W fun x w' => x = .returned (.string (Str (macT [0, 0, 0, 0, 0, 0]))) ∧ Below W.heap.size W w') := Lib.hid fun W => printMac_any [0, 0, 0, 0, 0, 0] rfl W
  have hz17 : (Str (macT [0, 0, 0, 0, 0, 0])).size = 17 := by rw [Str_size, zeroMac17]
  generalize Str (macT [0, 0, 0, 0, 0, 0]) = Z at HP hz17
  have hokz := fok_bytes [0, 0, 0, 0, 0, 0] 6 rfl
  have hbld : ∀ w0, (aggBuild 28 #[]).run Tryz.prog w0 = .ok (.agg (B8 [0, 0, 0, 0, 0, 0]).toArray) w0 := bld_run _ _ _ (by kernel_rfl)
  have hne : ((s.length : Int) != 17) = false := by simp; omega
  have HRP := Lib.hid (fun W (h : Env W) => replace_any s (by omega) W h)
  have hrl := repV_len s
  have HU := Lib.hid (fun W => unhex_any (Str (repV s)) (by rw [Str_size]; omega) W)
  rw [Str_data, hu] at HU
  unfold okS okE at HU
  simp only [Option.getD_none, Option.isSome_none, Bool.false_eq_true, if_false] at HU
  obtain ⟨b, hb⟩ : ∃ b : List UInt8, b = [] := ⟨_, rfl⟩
  rw [← hb] at HU
  clear hs hu hrl hb
  go_enter Tryz.func27, Tryz.ntmps27
  go_upto_region 2 with (fail)
  generalize (w.alloc (.cells #[.int .u8 0, .int .u8 0, .int .u8 0, .int .u8 0, .int .u8 0, .int .u8 0] 28)).alloc (.cells #[.int .u8 0, .int .u8 0, .int .u8 0, .int .u8 0, .int .u8 0, .int .u8 0] 28) = W at H0 ⊢
  have hr := H0.out.row
  go_upto_region 5 with (first
    | (go_at_call 30; (with_reducible refine (HP.out _).mono ?_); rintro x w1 ⟨rfl, hb1⟩; have H1 := Lib.hid (H0.out.below hb1); clear hb1 hr; have hf := H1.out.free)
    | (go_at_call 37; refine (HRP.out _ (HE.out.below H1.out.2.2.2)).mono ?_; rintro x w2 ⟨rfl, hb2⟩; have H2 := Lib.hid (H1.out.below hb2); clear hb2 hf)
    | (go_at_call 36; (with_reducible refine (HU.out _).mono ?_); rintro x w3 ⟨rfl, hb3⟩; have H3 := Lib.hid (H2.out.below hb3); clear hb3))
  have ho3 := H3.out.2.1
  go_wp2_with (with_reducible refine wpList_copy_all rfl (.tmp 20) (.tmp 21) 45 9 rfl Tryz.underlying45 (w.heap.size + 1) 6 6 rfl b rfl _ _ ho3 (by simp [B8_length]) ?_)
  intro v
  have H4 := Lib.hid (H3.out.copied b)
  clear ho3
  generalize aggO w3 (w.heap.size + 1) 0 _ = W4 at H4 ⊢
  have hr := H4.out.row
  have hf := H4.out.free
  go_wp2_with fail
  obtain ⟨q1, q2⟩ := H4.out.done [0, 0, 0, 0, 0, 0] rfl
  exact bodyPost_ret (results_cell2 Tryz.results27 rfl (ld_some q1 (ldr_mac _ _ _))) rfl ⟨rfl, q2⟩

set_option maxRecDepth 100000 in
set_option maxHeartbeats 2000000 in
theorem pm_diff (s : List UInt8) (b : List UInt8) (hs : s.length = 17) (hu : unhexV (repV s) = some b) (hq : macT (pm6 b) ≠ s) (w : World) (h : Env w) : Calls Tryz.prog 27 #[.string (Str s)] w fun x w' => x = .returned (.tuple #[.agg (B8 [0, 0, 0, 0, 0, 0]).toArray, .int .i64 2]) ∧ Below w.heap.size w w' := by
  have HE := Lib.hid h; clear h
  have h0 := PM.start w
  rw [show (B8 [0, 0, 0, 0, 0, 0]).toArray = #[.int .u8 0, .int .u8 0, .int .u8 0, .int .u8 0, .int .u8 0, .int .u8 0] from rfl] at h0
  have H0 := Lib.hid h0; clear h0
  have hsz := Str_size s
  have HP : Hid (∀ W, Calls Tryz.prog 30 #[.agg (B8 [0, 0, 0, 0, 0, 0]).toArray] W fun x w' => x = .returned (.string (Str (macT [0, 0, 0, 0, 0, 0]))) ∧ Below W.heap.size W w') := Lib.hid fun W => printMac_any [0, 0, 0, 0, 0, 0] rfl W
  have hz17 : (Str (macT [0, 0, 0, 0, 0, 0])).size = 17 := by rw [Str_size, zeroMac17]
  generalize Str (macT [0, 0, 0, 0, 0, 0]) = Z at HP hz17
  have hokz := fok_bytes [0, 0, 0, 0, 0, 0] 6 rfl
  have hbld : ∀ w0, (aggBuild 28 #[]).run Tryz.prog w0 = .ok (.agg (B8 [0, 0, 0, 0, 0, 0]).toArray) w0 := bld_run _ _ _ (by kernel_rfl)
  have hne : ((s.length : Int) != 17) = false := by simp; omega
  have HRP := Lib.hid (fun W (h : Env W) => replace_any s (by omega) W h)
  have hrl := repV_len s
  have HU := Lib.hid (fun W => unhex_any (Str (repV s)) (by rw [Str_size]; omega) W)
  rw [Str_data, hu] at HU
  unfold okS okE at HU
  simp only [Option.getD_some, Option.isSome_some, if_true] at HU
  have HP2 := Lib.hid (fun W => printMac_any (pm6 b) (pm6_length b) W)
  have hst : ((Str (macT (pm6 b))).toList != (Str s).toList) = true := by rw [strL, strL]; simpa using hq
  have hst2 : ((Str (macT (pm6 b))).toList == (Str s).toList) = !true := by rw [strL, strL]; simpa using hq
  generalize Str (macT (pm6 b)) = PP at HP2 hst hst2
  generalize Str s = SS at hst hst2 hsz HRP
  clear hs hu hrl hq
  have hokb := fok_bytes (pm6 b) 6 (pm6_length b)
  go_enter Tryz.func27, Tryz.ntmps27
  go_upto_region 2 with (fail)
  generalize (w.alloc (.cells #[.int .u8 0, .int .u8 0, .int .u8 0, .int .u8 0, .int .u8 0, .int .u8 0] 28)).alloc (.cells #[.int .u8 0, .int .u8 0, .int .u8 0, .int .u8 0, .int .u8 0, .int .u8 0] 28) = W at H0 ⊢
  have hr := H0.out.row
  go_upto_region 5 with (first
    | (go_at_call 30; (with_reducible refine (HP.out _).mono ?_); rintro x w1 ⟨rfl, hb1⟩; have H1 := Lib.hid (H0.out.below hb1); clear hb1 hr; have hf := H1.out.free)
    | (go_at_call 37; refine (HRP.out _ (HE.out.below H1.out.2.2.2)).mono ?_; rintro x w2 ⟨rfl, hb2⟩; have H2 := Lib.hid (H1.out.below hb2); clear hb2 hf)
    | (go_at_call 36; (with_reducible refine (HU.out _).mono ?_); rintro x w3 ⟨rfl, hb3⟩; have H3 := Lib.hid (H2.out.below hb3); clear hb3))
  have ho3 := H3.out.2.1
  go_wp2_with (with_reducible refine wpList_copy_all rfl (.tmp 20) (.tmp 21) 45 9 rfl Tryz.underlying45 (w.heap.size + 1) 6 6 rfl b rfl _ _ ho3 (by simp [B8_length]) ?_)
  intro v
  have H4 := Lib.hid (H3.out.copied b)
  clear ho3
  generalize aggO w3 (w.heap.size + 1) 0 _ = W4 at H4 ⊢
  have hr := H4.out.row
  have hf := H4.out.free
  go_wp2_with (go_at_call 30; (with_reducible refine (HP2.out _).mono ?_); rintro x w5 ⟨rfl, hb5⟩; have H5 := Lib.hid (H4.out.below hb5); clear hb5 hr hf; have hf := H5.out.free; have hr := H5.out.row)
  obtain ⟨q1, q2⟩ := H5.out.done [0, 0, 0, 0, 0, 0] rfl
  exact bodyPost_ret (results_cell2 Tryz.results27 rfl (ld_some q1 (ldr_mac _ _ _))) rfl ⟨rfl, q2⟩

set_option maxRecDepth 100000 in
set_option maxHeartbeats 2000000 in
theorem pm_good (s : List UInt8) (b : List UInt8) (hs : s.length = 17) (hu : unhexV (repV s) = some b) (hq : macT (pm6 b) = s) (w : World) (h : Env w) : Calls Tryz.prog 27 #[.string (Str s)] w fun x w' => x = .returned (.tuple #[.agg (B8 (pm6 b)).toArray, .int .i64 0]) ∧ Below w.heap.size w w' := by
  have HE := Lib.hid h; clear h
  have h0 := PM.start w
  rw [show (B8 [0, 0, 0, 0, 0, 0]).toArray = #[.int .u8 0, .int .u8 0, .int .u8 0, .int .u8 0, .int .u8 0, .int .u8 0] from rfl] at h0
  have H0 := Lib.hid h0; clear h0
  have hsz := Str_size s
  have HP : Hid (∀ W, Calls Tryz.prog 30 #[.agg (B8 [0, 0, 0, 0, 0, 0]).toArray] W fun x w' => x = .returned (.string (Str (macT [0, 0, 0, 0, 0, 0]))) ∧ Below W.heap.size W w') := Lib.hid fun W => printMac_any [0, 0, 0, 0, 0, 0] rfl W
  have hz17 : (Str (macT [0, 0, 0, 0, 0, 0])).size = 17 := by rw [Str_size, zeroMac17]
  generalize Str (macT [0, 0, 0, 0, 0, 0]) = Z at HP hz17
  have hokz := fok_bytes [0, 0, 0, 0, 0, 0] 6 rfl
  have hbld : ∀ w0, (aggBuild 28 #[]).run Tryz.prog w0 = .ok (.agg (B8 [0, 0, 0, 0, 0, 0]).toArray) w0 := bld_run _ _ _ (by kernel_rfl)
  have hne : ((s.length : Int) != 17) = false := by simp; omega
  have HRP := Lib.hid (fun W (h : Env W) => replace_any s (by omega) W h)
  have hrl := repV_len s
  have HU := Lib.hid (fun W => unhex_any (Str (repV s)) (by rw [Str_size]; omega) W)
  rw [Str_data, hu] at HU
  unfold okS okE at HU
  simp only [Option.getD_some, Option.isSome_some, if_true] at HU
  have HP2 := Lib.hid (fun W => printMac_any (pm6 b) (pm6_length b) W)
  have hst : ((Str (macT (pm6 b))).toList != (Str s).toList) = false := by rw [strL, strL]; simpa using hq
  have hst2 : ((Str (macT (pm6 b))).toList == (Str s).toList) = !false := by rw [strL, strL]; simpa using hq
  generalize Str (macT (pm6 b)) = PP at HP2 hst hst2
  generalize Str s = SS at hst hst2 hsz HRP
  clear hs hu hrl hq
  have hokb := fok_bytes (pm6 b) 6 (pm6_length b)
  go_enter Tryz.func27, Tryz.ntmps27
  go_upto_region 2 with (fail)
  generalize (w.alloc (.cells #[.int .u8 0, .int .u8 0, .int .u8 0, .int .u8 0, .int .u8 0, .int .u8 0] 28)).alloc (.cells #[.int .u8 0, .int .u8 0, .int .u8 0, .int .u8 0, .int .u8 0, .int .u8 0] 28) = W at H0 ⊢
  have hr := H0.out.row
  go_upto_region 5 with (first
    | (go_at_call 30; (with_reducible refine (HP.out _).mono ?_); rintro x w1 ⟨rfl, hb1⟩; have H1 := Lib.hid (H0.out.below hb1); clear hb1 hr; have hf := H1.out.free)
    | (go_at_call 37; refine (HRP.out _ (HE.out.below H1.out.2.2.2)).mono ?_; rintro x w2 ⟨rfl, hb2⟩; have H2 := Lib.hid (H1.out.below hb2); clear hb2 hf)
    | (go_at_call 36; (with_reducible refine (HU.out _).mono ?_); rintro x w3 ⟨rfl, hb3⟩; have H3 := Lib.hid (H2.out.below hb3); clear hb3))
  have ho3 := H3.out.2.1
  go_wp2_with (with_reducible refine wpList_copy_all rfl (.tmp 20) (.tmp 21) 45 9 rfl Tryz.underlying45 (w.heap.size + 1) 6 6 rfl b rfl _ _ ho3 (by simp [B8_length]) ?_)
  intro v
  have H4 := Lib.hid (H3.out.copied b)
  clear ho3
  generalize aggO w3 (w.heap.size + 1) 0 _ = W4 at H4 ⊢
  have hr := H4.out.row
  have hf := H4.out.free
  go_wp2_with (go_at_call 30; (with_reducible refine (HP2.out _).mono ?_); rintro x w5 ⟨rfl, hb5⟩; have H5 := Lib.hid (H4.out.below hb5); clear hb5 hr hf; have hf := H5.out.free; have hr := H5.out.row)
  obtain ⟨q1, q2⟩ := H5.out.done (pm6 b) (pm6_length b)
  exact bodyPost_ret (results_cell2 Tryz.results27 rfl (ld_some q1 (ldr_mac _ _ _))) rfl ⟨rfl, q2⟩

def PmEnd (w : World) (o : Option (List UInt8)) (e : Ending) (w' : World) : Prop :=
  (match o with
    | some m => e = .returned (.tuple #[.agg (B8 m).toArray, .int .i64 0])
    | none => e = .returned (.tuple #[.agg (B8 [0, 0, 0, 0, 0, 0]).toArray, .int .i64 2])) ∧ Below w.heap.size w w'
theorem parseMac_any (s : List UInt8) (hs : s.length ≤ 1000) (w : World) (h : Env w) : Calls Tryz.prog 27 #[.string (Str s)] w (PmEnd w (pmV s)) := by
  by_cases h17 : s.length = 17
  · cases hu : unhexV (repV s) with
    | none =>
      have e : pmV s = none := by unfold pmV; rw [if_pos h17, hu]
      rw [e]; exact pm_bad s h17 hu w h
    | some b =>
      by_cases hq : macT (pm6 b) = s
      · have e : pmV s = some (pm6 b) := by unfold pmV; rw [if_pos h17, hu]; exact if_pos hq
        rw [e]; exact pm_good s b h17 hu hq w h
      · have e : pmV s = none := by unfold pmV; rw [if_pos h17, hu]; exact if_neg hq
        rw [e]; exact pm_diff s b h17 hu hq w h
  · have e : pmV s = none := by unfold pmV; rw [if_neg h17]
    rw [e]; exact pm_len s h17 hs w h
theorem pmV_some {s m : List UInt8} (h : pmV s = some m) : m.length = 6 ∧ macT m = s := by
  unfold pmV at h
  split at h
  · split at h
    · split at h
      · rename_i hq
        simp at h
        subst h
        exact ⟨pm6_length _, hq⟩
      · simp at h
    · simp at h
  · simp at h
end Go.Proofs.YtmpikhpnkfnnoaaGreatDoor
