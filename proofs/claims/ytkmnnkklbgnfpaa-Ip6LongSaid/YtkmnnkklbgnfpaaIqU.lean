/-
  The document's own reading of a packet of IPv6.
-/
import Derived.Test.YtkmnnkklbgnfpaaIqO
import Derived.Test.YtkmnnkklbgnfpaaRread
import Derived.Test.YtkmnnkklbgnfpaaEqQ
import Derived.Test.YtkmnnkklbgnfpaaMgb
namespace Go.Proofs.Ytkmnnkklbgnfpaa
open Go.RowKit
set_option linter.unusedVariables false
attribute [local go_sem ↓] bld_iq ld_iq st_iq ld_addr st_addr
attribute [local go_sem] ldr_iq str_iq ldr_addr str_addr_at

theorem bld_zeroQ (w0 : World) : (aggBuild 26 #[]).run Try.prog w0 = .ok (.agg (ipC zeroI).toArray) w0 := bld_run _ _ _ (by kernel_rfl) _
/-- The result's block and the empty packet's. -/
def QR (w W : World) : Prop := ObjAt W w.heap.size (ipC zeroI).toArray 26 ∧ ObjAt W (w.heap.size + 1) (ipC zeroI).toArray 26 ∧ Below w.heap.size w W
theorem QR.start (w : World) : QR w (aggW ((w.alloc (.cells (ipC zeroI).toArray 26)).alloc (.cells (ipC zeroI).toArray 26)) (w.heap.size + 1) (ipC zeroI)) := by
  have h0 := (ObjAt.made w (ipC zeroI).toArray 26).alloc (.cells (ipC zeroI).toArray 26)
  have h1 := ObjAt.made (w.alloc (.cells (ipC zeroI).toArray 26)) (ipC zeroI).toArray 26
  rw [show (w.alloc (.cells (ipC zeroI).toArray 26)).heap.size = w.heap.size + 1 by simp] at h1
  have hb : Below w.heap.size w ((w.alloc (.cells (ipC zeroI).toArray 26)).alloc (.cells (ipC zeroI).toArray 26)) := ((Below.refl _ _).alloc (Nat.le_refl _) _).alloc (by simp) _
  exact ⟨aggW_other h0 _ (by omega), aggW_obj (cs := ipC zeroI) h1 rfl (ipC_one zeroI), aggW_below hb (by omega) _⟩
theorem QR.drewN {w W : World} (h : QR w W) (d : Nat) : QR w (W.drewN d) := ⟨h.1, h.2.1, bdrewN h.2.2 d⟩
theorem QR.below {w W W' : World} (h : QR w W) (hb : Below W.heap.size W W') : QR w W' := ⟨h.1.below hb h.1.lt, h.2.1.below hb h.2.1.lt, bstep h.2.2 hb⟩
theorem QR.free {w W : World} (h : QR w W) : free? W w.heap.size 0 40 = true := obj_free h.1 (by simp [ipC_length zeroI_ok])
theorem QR.row {w W : World} (h : QR w W) : row? W (w.heap.size + 1) 0 40 = some (ipC zeroI) := obj_row (A := []) (M := ipC zeroI) (C := []) (by simpa using h.2.1) rfl (ipC_length zeroI_ok)
theorem QR.done {w W : World} (h : QR w W) (e : Ip) (ho : e.ok) : row? (aggW W w.heap.size (ipC e)) w.heap.size 0 40 = some (ipC e) ∧ Below w.heap.size w (aggW W w.heap.size (ipC e)) :=
  ⟨aggW_row h.free (ipC_length ho), aggW_below h.2.2 (Nat.le_refl _) _⟩

theorem bld_part6 (b1 b2 b3 b4 : Int) (S : List UInt8) (w0 : World) : (aggBuild 26 #[(0, .int .i64 b1), (1, .int .i64 b2), (2, .int .i64 b3), (3, .int .i64 b4), (7, .string (Str S))]).run Try.prog w0 = .ok (.agg (ipC ⟨b1, b2, b3, b4, false, [0, 0, 0, 0, 0, 0, 0, 0, 0, 0, 0, 0, 0, 0, 0, 0], false, [0, 0, 0, 0, 0, 0, 0, 0, 0, 0, 0, 0, 0, 0, 0, 0], false, S⟩).toArray) w0 := bld_run _ _ _ (by kernel_rfl) _
/-- .. and the packet in block m. -/
def QG (w W : World) (m : Nat) (e : Ip) : Prop := QR w W ∧ IqAt W m e ∧ w.heap.size + 1 < m ∧ e.ok
theorem QG.below {w W W' : World} {m : Nat} {e : Ip} (h : QG w W m e) (hb : Below W.heap.size W W') : QG w W' m e := ⟨h.1.below hb, h.2.1.below hb, h.2.2.1, h.2.2.2⟩
theorem QG.made {w W : World} (h : QR w W) (e : Ip) (ho : e.ok) : QG w (aggW (W.alloc (.cells (ipC zeroI).toArray 26)) W.heap.size (ipC e)) W.heap.size e := by
  have l1 := h.1.lt
  have l2 := h.2.1.lt
  exact ⟨⟨aggW_other (h.1.alloc _) _ (by omega), aggW_other (h.2.1.alloc _) _ (by omega), aggW_below (h.2.2.alloc (by omega) _) (by omega) _⟩, aggW_obj (ObjAt.made W (ipC zeroI).toArray 26) (by rw [ipC_length ho, ipC_length zeroI_ok]) (ipC_one e), l2, ho⟩

theorem over_frv (e : Ip) (ho : e.ok) (v : Bool) (l : List UInt8) (hl : l.length = 16) : over (ipC e) 4 (addrC v l) = ipC ⟨e.tos, e.id, e.ttl, e.pro, v, l, e.t6, e.to, e.al, e.bd⟩ := by
  have h1 : (addrC e.f6 e.fr).length = 17 := by rw [addrC_length, ho.1]
  unfold over ipC
  rw [addrC_length, hl]
  simp only [List.cons_append, List.nil_append, List.take_succ_cons, List.take_zero, List.drop_succ_cons, show 4 + (16 + 1) = 17 + 4 from rfl]
  rw [← h1, List.drop_left]
theorem over_tov (e : Ip) (ho : e.ok) (v : Bool) (l : List UInt8) (hl : l.length = 16) : over (ipC e) 21 (addrC v l) = ipC ⟨e.tos, e.id, e.ttl, e.pro, e.f6, e.fr, v, l, e.al, e.bd⟩ := by
  have h1 : ([Value.int .i64 e.tos, .int .i64 e.id, .int .i64 e.ttl, .int .i64 e.pro] ++ addrC e.f6 e.fr).length = 21 := by rw [List.length_append, addrC_length, ho.1]; rfl
  have h2 : (addrC e.t6 e.to).length = 17 := by rw [addrC_length, ho.2]
  have e1 : ipC e = ([Value.int .i64 e.tos, .int .i64 e.id, .int .i64 e.ttl, .int .i64 e.pro] ++ addrC e.f6 e.fr) ++ (addrC e.t6 e.to ++ [.bool e.al, .string (Str e.bd)]) := by unfold ipC; simp
  unfold over
  rw [addrC_length, hl, e1, show 21 + (16 + 1) = 21 + 17 from rfl, ← List.drop_drop]
  conv => lhs; rw [← h1]
  rw [List.take_left, List.drop_left, ← h2, List.drop_left]
  unfold ipC
  simp
theorem obj_freeq {w : World} {b o n : Nat} {L : Array Value} {t : TypeId} (h : ObjAt w b L t) (hn : o + n ≤ L.size) : free? w b o n = true := free_of fun j hj => by
  refine ⟨?_, h.free (o + j)⟩
  rw [h.cell (o + j), Array.getElem?_eq_getElem (by omega)]; rfl
theorem QG.fr {w W : World} {m : Nat} {e : Ip} (h : QG w W m e) (v : Bool) (l : List UInt8) (hl : l.length = 16) : QG w (aggO W m 4 (addrC v l)) m ⟨e.tos, e.id, e.ttl, e.pro, v, l, e.t6, e.to, e.al, e.bd⟩ := by
  obtain ⟨⟨h1, h2, h3⟩, h4, h5, h6⟩ := h
  refine ⟨⟨aggO_other h1 _ (by omega), aggO_other h2 _ (by omega), aggO_below h3 (by omega) _ _⟩, ?_, h5, hl, h6.2⟩
  have := aggO_obj (o := 4) (cs := addrC v l) h4 (by rw [ipC_length h6, addrC_length, hl]; omega) (addrC_one _ _)
  rw [over_frv e h6 v l hl] at this
  exact this
theorem QG.to {w W : World} {m : Nat} {e : Ip} (h : QG w W m e) (v : Bool) (l : List UInt8) (hl : l.length = 16) : QG w (aggO W m 21 (addrC v l)) m ⟨e.tos, e.id, e.ttl, e.pro, e.f6, e.fr, v, l, e.al, e.bd⟩ := by
  obtain ⟨⟨h1, h2, h3⟩, h4, h5, h6⟩ := h
  refine ⟨⟨aggO_other h1 _ (by omega), aggO_other h2 _ (by omega), aggO_below h3 (by omega) _ _⟩, ?_, h5, h6.1, hl⟩
  have := aggO_obj (o := 21) (cs := addrC v l) h4 (by rw [ipC_length h6, addrC_length, hl]; omega) (addrC_one _ _)
  rw [over_tov e h6 v l hl] at this
  exact this
theorem QG.free4 {w W : World} {m : Nat} {e : Ip} (h : QG w W m e) : free? W m 4 17 = true := obj_freeq h.2.1 (by simp [ipC_length h.2.2.2])
theorem QG.free21 {w W : World} {m : Nat} {e : Ip} (h : QG w W m e) : free? W m 21 17 = true := obj_freeq h.2.1 (by simp [ipC_length h.2.2.2])
theorem QG.drewN {w W : World} {m : Nat} {e : Ip} (h : QG w W m e) (d : Nat) : QG w (W.drewN d) m e := h.below (bdrewN (Below.refl _ _) d)
theorem QG.set {w W : World} {m : Nat} {e e' : Ip} (h : QG w W m e) (j : Nat) (v : Value) (he : (ipC e).set j v = ipC e') (ho : e'.ok) : QG w (W.setCell ⟨m, j, none⟩ v) m e' := by
  obtain ⟨⟨h1, h2, h3⟩, h4, h5, h6⟩ := h
  refine ⟨⟨ObjAt.other h1 ⟨m, j, none⟩ v (by show w.heap.size ≠ m; omega), ObjAt.other h2 ⟨m, j, none⟩ v (by show w.heap.size + 1 ≠ m; omega), h3.setCell (p := ⟨m, j, none⟩) (by show w.heap.size ≤ m; omega) v⟩, ?_, h5, ho⟩
  have := ObjAt.set h4 j v
  rw [show (ipC e).toArray.setIfInBounds j v = (ipC e').toArray by apply Array.ext'; rw [Array.toList_setIfInBounds]; exact he] at this
  exact this
theorem set_end (e : Ip) (ho : e.ok) (j : Nat) (v : Value) : (ipC e).set (38 + j) v = [Value.int .i64 e.tos, .int .i64 e.id, .int .i64 e.ttl, .int .i64 e.pro] ++ (addrC e.f6 e.fr ++ (addrC e.t6 e.to ++ [Value.bool e.al, .string (Str e.bd)].set j v)) := by
  have l1 : (addrC e.f6 e.fr).length = 17 := by rw [addrC_length, ho.1]
  have l2 : (addrC e.t6 e.to).length = 17 := by rw [addrC_length, ho.2]
  unfold ipC
  rw [List.set_append_right _ _ (by simp; omega), List.set_append_right _ _ (by rw [l1]; simp; omega), List.set_append_right _ _ (by rw [l1, l2]; simp; omega), l1, l2]
  congr 4
  simp
  omega
theorem readV16 (l : List UInt8) (h : l.length = 16) : readV l = l := by unfold readV; rw [h]; simp
theorem rnum4 (s : List UInt8) (hs : s.length ≤ 100000) (a b : Nat) (w : World) : Calls Try.prog 26 #[.string ((Str s).extract a b)] w fun x w' => x = .returned (.int .u64 (num ((s.drop a).take (b - a)))) ∧ w' = w := by
  have h := rnum_any ((Str s).extract a b) (by unfold maxLen; rw [Str_extract, Str_size]; simp; omega) w
  rw [Str_extract] at h ⊢
  exact h.mono fun x w' h => ⟨h.1, h.2.symm⟩
theorem lt_sizeq {s : List UInt8} {i : Nat} (h : (i : Int) < (s.length : Int)) : i < (Str s).size := by rw [Str_size]; omega
theorem lt_zeroq {s : List UInt8} (h : (0 : Int) < (s.length : Int)) : 0 < (Str s).size := by rw [Str_size]; omega
theorem iqOf_no (s : List UInt8) (h : by8 s 6 ≠ 0) (ra rb : Nat) (ha : ra = num (s.take 2) / 16 % 256) (hb : rb = num (s.take 4) % 1048576) : iqOf s = ⟨ra, rb, by8 s 6, by8 s 7, true, (s.drop 8).take 16, true, (s.drop 24).take 16, false, bd6 s⟩ := by
  subst ha hb
  unfold iqOf; rw [if_neg h, if_neg h, if_neg h]
theorem free_drewN {W : World} {b o n : Nat} (h : free? W b o n = true) (d : Nat) : free? (W.drewN d) b o n = true := h
theorem u64_small (n : Nat) (h : n < 10000000) : IntKind.u64.wrap (n : Int) = (n : Int) := by simp only [IntKind.wrap_u64]; omega
theorem i64_small (n : Nat) (h : n < 10000000) : IntKind.i64.wrap (n : Int) = (n : Int) := by simp only [IntKind.wrap_i64]; omega
theorem i64_forty (n : Nat) (h : n < 65536) : IntKind.i64.wrap (40 + (n : Int)) = 40 + (n : Int) := by simp only [IntKind.wrap_i64]; omega
theorem num_take_lt (s : List UInt8) : num (s.take 2) < 65536 := by
  match s with
  | [] => decide
  | [a] => show num [a] < 65536; rw [num1]; have := a.toNat_lt; omega
  | a :: b :: r => show num [a, b] < 65536; exact num2_lt rfl


set_option maxRecDepth 100000 in
set_option maxHeartbeats 4000000 in
theorem rread6_short (s : List UInt8) (hs : s.length ≤ 100000) (h1 : s.length < 40) (w : World) :
    Calls Try.prog 15 #[.string (Str s)] w fun x w' => x = .returned (.tuple #[.agg (ipC (readV6 s).1).toArray, .int .i64 (readV6 s).2]) ∧ Below w.heap.size w w' := by
  have HR := Lib.hid (show readV6 s = (zeroI, 3) by
    have hE : hdE6 s = 3 := by unfold hdE6; rw [if_pos h1]
    unfold readV6; rw [why6_bad (by rw [hE]; omega), hE, if_neg (by omega)])
  have hsz := Str_size s
  have hq : decide ((s.length : Int) < 40) = true := by simp; omega
  clear hs h1
  have H0 := Lib.hid (QR.start w)
  have hbz := bld_zeroQ
  have hfok := fok_ip zeroI_ok
  have hf0 := free_made (w.alloc (.cells #[.int .i64 0, .int .i64 0, .int .i64 0, .int .i64 0, .bool false, .int .u8 0, .int .u8 0, .int .u8 0, .int .u8 0, .int .u8 0, .int .u8 0, .int .u8 0, .int .u8 0, .int .u8 0, .int .u8 0, .int .u8 0, .int .u8 0, .int .u8 0, .int .u8 0, .int .u8 0, .int .u8 0, .bool false, .int .u8 0, .int .u8 0, .int .u8 0, .int .u8 0, .int .u8 0, .int .u8 0, .int .u8 0, .int .u8 0, .int .u8 0, .int .u8 0, .int .u8 0, .int .u8 0, .int .u8 0, .int .u8 0, .int .u8 0, .int .u8 0, .bool false, .string ⟨#[]⟩] 26)) #[.int .i64 0, .int .i64 0, .int .i64 0, .int .i64 0, .bool false, .int .u8 0, .int .u8 0, .int .u8 0, .int .u8 0, .int .u8 0, .int .u8 0, .int .u8 0, .int .u8 0, .int .u8 0, .int .u8 0, .int .u8 0, .int .u8 0, .int .u8 0, .int .u8 0, .int .u8 0, .int .u8 0, .bool false, .int .u8 0, .int .u8 0, .int .u8 0, .int .u8 0, .int .u8 0, .int .u8 0, .int .u8 0, .int .u8 0, .int .u8 0, .int .u8 0, .int .u8 0, .int .u8 0, .int .u8 0, .int .u8 0, .int .u8 0, .int .u8 0, .bool false, .string ⟨#[]⟩] 26 40 (by simp)
  rw [show (w.alloc (.cells #[.int .i64 0, .int .i64 0, .int .i64 0, .int .i64 0, .bool false, .int .u8 0, .int .u8 0, .int .u8 0, .int .u8 0, .int .u8 0, .int .u8 0, .int .u8 0, .int .u8 0, .int .u8 0, .int .u8 0, .int .u8 0, .int .u8 0, .int .u8 0, .int .u8 0, .int .u8 0, .int .u8 0, .bool false, .int .u8 0, .int .u8 0, .int .u8 0, .int .u8 0, .int .u8 0, .int .u8 0, .int .u8 0, .int .u8 0, .int .u8 0, .int .u8 0, .int .u8 0, .int .u8 0, .int .u8 0, .int .u8 0, .int .u8 0, .int .u8 0, .bool false, .string ⟨#[]⟩] 26)).heap.size = w.heap.size + 1 by simp] at hf0
  rw [zeroI_cells] at H0
  go_enter Try.func15, Try.ntmps15
  go_upto_region 2 with (fail)
  generalize aggW ((w.alloc (.cells #[.int .i64 0, .int .i64 0, .int .i64 0, .int .i64 0, .bool false, .int .u8 0, .int .u8 0, .int .u8 0, .int .u8 0, .int .u8 0, .int .u8 0, .int .u8 0, .int .u8 0, .int .u8 0, .int .u8 0, .int .u8 0, .int .u8 0, .int .u8 0, .int .u8 0, .int .u8 0, .int .u8 0, .bool false, .int .u8 0, .int .u8 0, .int .u8 0, .int .u8 0, .int .u8 0, .int .u8 0, .int .u8 0, .int .u8 0, .int .u8 0, .int .u8 0, .int .u8 0, .int .u8 0, .int .u8 0, .int .u8 0, .int .u8 0, .int .u8 0, .bool false, .string ⟨#[]⟩] 26)).alloc (.cells #[.int .i64 0, .int .i64 0, .int .i64 0, .int .i64 0, .bool false, .int .u8 0, .int .u8 0, .int .u8 0, .int .u8 0, .int .u8 0, .int .u8 0, .int .u8 0, .int .u8 0, .int .u8 0, .int .u8 0, .int .u8 0, .int .u8 0, .int .u8 0, .int .u8 0, .int .u8 0, .int .u8 0, .bool false, .int .u8 0, .int .u8 0, .int .u8 0, .int .u8 0, .int .u8 0, .int .u8 0, .int .u8 0, .int .u8 0, .int .u8 0, .int .u8 0, .int .u8 0, .int .u8 0, .int .u8 0, .int .u8 0, .int .u8 0, .int .u8 0, .bool false, .string ⟨#[]⟩] 26)) (w.heap.size + 1) _ = W at H0 ⊢
  clear hf0
  have hr := H0.out.row
  have hf := H0.out.free
  go_upto_region 3 with (fail)
  repeat (first | go_values | go_skip | go_guarded | go_step | go_upon | go_in)
  obtain ⟨q1, q2⟩ := H0.out.done zeroI zeroI_ok
  exact bodyPost_ret (results_cell2 Try.results15 rfl (ld_some q1 (ldr_iq _ _ _))) rfl ⟨by rw [HR.out]; rfl, q2⟩

set_option maxRecDepth 100000 in
set_option maxHeartbeats 4000000 in
theorem rread6_kind (s : List UInt8) (hs : s.length ≤ 100000) (h1 : ¬ s.length < 40) (h2 : by8 s 0 / 16 ≠ 6) (w : World) :
    Calls Try.prog 15 #[.string (Str s)] w fun x w' => x = .returned (.tuple #[.agg (ipC (readV6 s).1).toArray, .int .i64 (readV6 s).2]) ∧ Below w.heap.size w w' := by
  have HR := Lib.hid (show readV6 s = (zeroI, 5) by
    have hE : hdE6 s = 5 := by unfold hdE6; rw [if_neg h1, if_pos h2]
    unfold readV6; rw [why6_bad (by rw [hE]; omega), hE, if_neg (by omega)])
  have hsz := Str_size s
  have hq : decide ((s.length : Int) < 40) = false := by simp; omega
  have hp0 : 0 < s.length := by omega
  have hi0 : (0 : Int) < (s.length : Int) := by omega
  have e0 := Str_at s 0 (lt_zeroq hi0)
  have b0 := by8_lt s 0
  have hdv : (by8 s 0 : Int) / 16 = ((by8 s 0 / 16 : Nat) : Int) := rfl
  have hdt : (by8 s 0 : Int).tdiv 16 = ((by8 s 0 / 16 : Nat) : Int) := rfl
  have hwv : IntKind.u8.wrap ((by8 s 0 / 16 : Nat) : Int) = ((by8 s 0 / 16 : Nat) : Int) := by simp only [IntKind.wrap_u8]; omega
  have hv6 : (((by8 s 0 / 16 : Nat) : Int) != 6) = true := by simp; omega
  generalize by8 s 0 / 16 = v at *
  generalize by8 s 0 = x at *
  clear hs h1 h2 b0
  have H0 := Lib.hid (QR.start w)
  have hbz := bld_zeroQ
  have hfok := fok_ip zeroI_ok
  have hf0 := free_made (w.alloc (.cells #[.int .i64 0, .int .i64 0, .int .i64 0, .int .i64 0, .bool false, .int .u8 0, .int .u8 0, .int .u8 0, .int .u8 0, .int .u8 0, .int .u8 0, .int .u8 0, .int .u8 0, .int .u8 0, .int .u8 0, .int .u8 0, .int .u8 0, .int .u8 0, .int .u8 0, .int .u8 0, .int .u8 0, .bool false, .int .u8 0, .int .u8 0, .int .u8 0, .int .u8 0, .int .u8 0, .int .u8 0, .int .u8 0, .int .u8 0, .int .u8 0, .int .u8 0, .int .u8 0, .int .u8 0, .int .u8 0, .int .u8 0, .int .u8 0, .int .u8 0, .bool false, .string ⟨#[]⟩] 26)) #[.int .i64 0, .int .i64 0, .int .i64 0, .int .i64 0, .bool false, .int .u8 0, .int .u8 0, .int .u8 0, .int .u8 0, .int .u8 0, .int .u8 0, .int .u8 0, .int .u8 0, .int .u8 0, .int .u8 0, .int .u8 0, .int .u8 0, .int .u8 0, .int .u8 0, .int .u8 0, .int .u8 0, .bool false, .int .u8 0, .int .u8 0, .int .u8 0, .int .u8 0, .int .u8 0, .int .u8 0, .int .u8 0, .int .u8 0, .int .u8 0, .int .u8 0, .int .u8 0, .int .u8 0, .int .u8 0, .int .u8 0, .int .u8 0, .int .u8 0, .bool false, .string ⟨#[]⟩] 26 40 (by simp)
  rw [show (w.alloc (.cells #[.int .i64 0, .int .i64 0, .int .i64 0, .int .i64 0, .bool false, .int .u8 0, .int .u8 0, .int .u8 0, .int .u8 0, .int .u8 0, .int .u8 0, .int .u8 0, .int .u8 0, .int .u8 0, .int .u8 0, .int .u8 0, .int .u8 0, .int .u8 0, .int .u8 0, .int .u8 0, .int .u8 0, .bool false, .int .u8 0, .int .u8 0, .int .u8 0, .int .u8 0, .int .u8 0, .int .u8 0, .int .u8 0, .int .u8 0, .int .u8 0, .int .u8 0, .int .u8 0, .int .u8 0, .int .u8 0, .int .u8 0, .int .u8 0, .int .u8 0, .bool false, .string ⟨#[]⟩] 26)).heap.size = w.heap.size + 1 by simp] at hf0
  rw [zeroI_cells] at H0
  go_enter Try.func15, Try.ntmps15
  go_upto_region 2 with (fail)
  generalize aggW ((w.alloc (.cells #[.int .i64 0, .int .i64 0, .int .i64 0, .int .i64 0, .bool false, .int .u8 0, .int .u8 0, .int .u8 0, .int .u8 0, .int .u8 0, .int .u8 0, .int .u8 0, .int .u8 0, .int .u8 0, .int .u8 0, .int .u8 0, .int .u8 0, .int .u8 0, .int .u8 0, .int .u8 0, .int .u8 0, .bool false, .int .u8 0, .int .u8 0, .int .u8 0, .int .u8 0, .int .u8 0, .int .u8 0, .int .u8 0, .int .u8 0, .int .u8 0, .int .u8 0, .int .u8 0, .int .u8 0, .int .u8 0, .int .u8 0, .int .u8 0, .int .u8 0, .bool false, .string ⟨#[]⟩] 26)).alloc (.cells #[.int .i64 0, .int .i64 0, .int .i64 0, .int .i64 0, .bool false, .int .u8 0, .int .u8 0, .int .u8 0, .int .u8 0, .int .u8 0, .int .u8 0, .int .u8 0, .int .u8 0, .int .u8 0, .int .u8 0, .int .u8 0, .int .u8 0, .int .u8 0, .int .u8 0, .int .u8 0, .int .u8 0, .bool false, .int .u8 0, .int .u8 0, .int .u8 0, .int .u8 0, .int .u8 0, .int .u8 0, .int .u8 0, .int .u8 0, .int .u8 0, .int .u8 0, .int .u8 0, .int .u8 0, .int .u8 0, .int .u8 0, .int .u8 0, .int .u8 0, .bool false, .string ⟨#[]⟩] 26)) (w.heap.size + 1) _ = W at H0 ⊢
  clear hf0
  have hr := H0.out.row
  have hf := H0.out.free
  go_upto_region 5 with (fail)
  repeat (first | go_values | go_skip | go_guarded | go_step | go_upon | go_in)
  obtain ⟨q1, q2⟩ := H0.out.done zeroI zeroI_ok
  exact bodyPost_ret (results_cell2 Try.results15 rfl (ld_some q1 (ldr_iq _ _ _))) rfl ⟨by rw [HR.out]; rfl, q2⟩

set_option maxRecDepth 100000 in
set_option maxHeartbeats 4000000 in
theorem rread6_end (s : List UInt8) (hs : s.length ≤ 100000) (h1 : ¬ s.length < 40) (h2 : ¬ by8 s 0 / 16 ≠ 6) (h3 : s.length < wd s 4 + 40) (w : World) :
    Calls Try.prog 15 #[.string (Str s)] w fun x w' => x = .returned (.tuple #[.agg (ipC (readV6 s).1).toArray, .int .i64 (readV6 s).2]) ∧ Below w.heap.size w w' := by
  have HR := Lib.hid (show readV6 s = (zeroI, 3) by
    have hE : hdE6 s = 3 := by unfold hdE6; rw [if_neg h1, if_neg h2, if_pos h3]
    unfold readV6; rw [why6_bad (by rw [hE]; omega), hE, if_neg (by omega)])
  have hsz := Str_size s
  have hq : decide ((s.length : Int) < 40) = false := by simp; omega
  have hp0 : 0 < s.length := by omega
  have hi0 : (0 : Int) < (s.length : Int) := by omega
  have e0 := Str_at s 0 (lt_zeroq hi0)
  have b0 := by8_lt s 0
  have hdv : (by8 s 0 : Int) / 16 = ((by8 s 0 / 16 : Nat) : Int) := rfl
  have hdt : (by8 s 0 : Int).tdiv 16 = ((by8 s 0 / 16 : Nat) : Int) := rfl
  have hwv : IntKind.u8.wrap ((by8 s 0 / 16 : Nat) : Int) = ((by8 s 0 / 16 : Nat) : Int) := by simp only [IntKind.wrap_u8]; omega
  have hv6 : (((by8 s 0 / 16 : Nat) : Int) != 6) = false := by simp; omega
  have hi4 : (4 : Int) ≤ (s.length : Int) := by omega
  have hi6 : (6 : Int) ≤ (s.length : Int) := by omega
  have hN4 : Hid (∀ W, Calls Try.prog 26 #[.string ((Str s).extract 4 6)] W fun x w' => x = .returned (.int .u64 (wd s 4)) ∧ w' = W) := Lib.hid fun W => rnum4 s hs 4 6 W
  have bn := wd_lt s 4 (by omega)
  have hwn : IntKind.i64.wrap (wd s 4 : Int) = (wd s 4 : Int) := by simp only [IntKind.wrap_i64]; omega
  have hwl : IntKind.i64.wrap ((s.length : Int) - 40) = (s.length : Int) - 40 := by simp only [IntKind.wrap_i64]; omega
  have hq3 : decide ((s.length : Int) - 40 < (wd s 4 : Int)) = true := by simp; omega
  generalize by8 s 0 / 16 = v at *
  generalize by8 s 0 = x at *
  generalize wd s 4 = n at *
  clear hs h1 h2 h3 b0 bn
  have H0 := Lib.hid (QR.start w)
  have hbz := bld_zeroQ
  have hfok := fok_ip zeroI_ok
  have hf0 := free_made (w.alloc (.cells #[.int .i64 0, .int .i64 0, .int .i64 0, .int .i64 0, .bool false, .int .u8 0, .int .u8 0, .int .u8 0, .int .u8 0, .int .u8 0, .int .u8 0, .int .u8 0, .int .u8 0, .int .u8 0, .int .u8 0, .int .u8 0, .int .u8 0, .int .u8 0, .int .u8 0, .int .u8 0, .int .u8 0, .bool false, .int .u8 0, .int .u8 0, .int .u8 0, .int .u8 0, .int .u8 0, .int .u8 0, .int .u8 0, .int .u8 0, .int .u8 0, .int .u8 0, .int .u8 0, .int .u8 0, .int .u8 0, .int .u8 0, .int .u8 0, .int .u8 0, .bool false, .string ⟨#[]⟩] 26)) #[.int .i64 0, .int .i64 0, .int .i64 0, .int .i64 0, .bool false, .int .u8 0, .int .u8 0, .int .u8 0, .int .u8 0, .int .u8 0, .int .u8 0, .int .u8 0, .int .u8 0, .int .u8 0, .int .u8 0, .int .u8 0, .int .u8 0, .int .u8 0, .int .u8 0, .int .u8 0, .int .u8 0, .bool false, .int .u8 0, .int .u8 0, .int .u8 0, .int .u8 0, .int .u8 0, .int .u8 0, .int .u8 0, .int .u8 0, .int .u8 0, .int .u8 0, .int .u8 0, .int .u8 0, .int .u8 0, .int .u8 0, .int .u8 0, .int .u8 0, .bool false, .string ⟨#[]⟩] 26 40 (by simp)
  rw [show (w.alloc (.cells #[.int .i64 0, .int .i64 0, .int .i64 0, .int .i64 0, .bool false, .int .u8 0, .int .u8 0, .int .u8 0, .int .u8 0, .int .u8 0, .int .u8 0, .int .u8 0, .int .u8 0, .int .u8 0, .int .u8 0, .int .u8 0, .int .u8 0, .int .u8 0, .int .u8 0, .int .u8 0, .int .u8 0, .bool false, .int .u8 0, .int .u8 0, .int .u8 0, .int .u8 0, .int .u8 0, .int .u8 0, .int .u8 0, .int .u8 0, .int .u8 0, .int .u8 0, .int .u8 0, .int .u8 0, .int .u8 0, .int .u8 0, .int .u8 0, .int .u8 0, .bool false, .string ⟨#[]⟩] 26)).heap.size = w.heap.size + 1 by simp] at hf0
  rw [zeroI_cells] at H0
  go_enter Try.func15, Try.ntmps15
  go_upto_region 2 with (fail)
  generalize aggW ((w.alloc (.cells #[.int .i64 0, .int .i64 0, .int .i64 0, .int .i64 0, .bool false, .int .u8 0, .int .u8 0, .int .u8 0, .int .u8 0, .int .u8 0, .int .u8 0, .int .u8 0, .int .u8 0, .int .u8 0, .int .u8 0, .int .u8 0, .int .u8 0, .int .u8 0, .int .u8 0, .int .u8 0, .int .u8 0, .bool false, .int .u8 0, .int .u8 0, .int .u8 0, .int .u8 0, .int .u8 0, .int .u8 0, .int .u8 0, .int .u8 0, .int .u8 0, .int .u8 0, .int .u8 0, .int .u8 0, .int .u8 0, .int .u8 0, .int .u8 0, .int .u8 0, .bool false, .string ⟨#[]⟩] 26)).alloc (.cells #[.int .i64 0, .int .i64 0, .int .i64 0, .int .i64 0, .bool false, .int .u8 0, .int .u8 0, .int .u8 0, .int .u8 0, .int .u8 0, .int .u8 0, .int .u8 0, .int .u8 0, .int .u8 0, .int .u8 0, .int .u8 0, .int .u8 0, .int .u8 0, .int .u8 0, .int .u8 0, .int .u8 0, .bool false, .int .u8 0, .int .u8 0, .int .u8 0, .int .u8 0, .int .u8 0, .int .u8 0, .int .u8 0, .int .u8 0, .int .u8 0, .int .u8 0, .int .u8 0, .int .u8 0, .int .u8 0, .int .u8 0, .int .u8 0, .int .u8 0, .bool false, .string ⟨#[]⟩] 26)) (w.heap.size + 1) _ = W at H0 ⊢
  clear hf0
  have hr := H0.out.row
  have hf := H0.out.free
  go_upto_region 8 with (go_at_call 26; (with_reducible refine (hN4.out _).mono ?_); rintro x w5 ⟨rfl, hw5⟩; subst hw5)
  repeat (first | go_values | go_skip | go_guarded | go_step | go_upon | go_in)
  obtain ⟨q1, q2⟩ := H0.out.done zeroI zeroI_ok
  exact bodyPost_ret (results_cell2 Try.results15 rfl (ld_some q1 (ldr_iq _ _ _))) rfl ⟨by rw [HR.out]; rfl, q2⟩

set_option maxRecDepth 100000 in
set_option maxHeartbeats 4000000 in
theorem rread6_nolong (s : List UInt8) (hs : s.length ≤ 100000) (h1 : ¬ s.length < 40) (h2 : ¬ by8 s 0 / 16 ≠ 6) (h3 : ¬ s.length < wd s 4 + 40) (h4 : by8 s 6 ≠ 0) (h5 : 1400 < wd s 4) (w : World) :
    Calls Try.prog 15 #[.string (Str s)] w fun x w' => x = .returned (.tuple #[.agg (ipC (readV6 s).1).toArray, .int .i64 (readV6 s).2]) ∧ Below w.heap.size w w' := by
  have hE : hdE6 s = 0 := hdE6_of (by omega) (by omega) (by omega)
  have hbl : (bd6 s).length = wd s 4 := (hdE6_zero hE).2.2.2
  have HR := Lib.hid (show readV6 s = (zeroI, 6) by
    unfold readV6; rw [why6_no hE h4, hbl]; rw [if_pos h5, if_neg (by omega)])
  have hsz := Str_size s
  have hq : decide ((s.length : Int) < 40) = false := by simp; omega
  have hp0 : 0 < s.length := by omega
  have hi0 : (0 : Int) < (s.length : Int) := by omega
  have e0 := Str_at s 0 (lt_zeroq hi0)
  have b0 := by8_lt s 0
  have hdv : (by8 s 0 : Int) / 16 = ((by8 s 0 / 16 : Nat) : Int) := rfl
  have hdt : (by8 s 0 : Int).tdiv 16 = ((by8 s 0 / 16 : Nat) : Int) := rfl
  have hwv : IntKind.u8.wrap ((by8 s 0 / 16 : Nat) : Int) = ((by8 s 0 / 16 : Nat) : Int) := by simp only [IntKind.wrap_u8]; omega
  have hv6 : (((by8 s 0 / 16 : Nat) : Int) != 6) = false := by simp; omega
  have hi4 : (4 : Int) ≤ (s.length : Int) := by omega
  have hi6 : (6 : Int) ≤ (s.length : Int) := by omega
  have hN4 : Hid (∀ W, Calls Try.prog 26 #[.string ((Str s).extract 4 6)] W fun x w' => x = .returned (.int .u64 (wd s 4)) ∧ w' = W) := Lib.hid fun W => rnum4 s hs 4 6 W
  have bn := wd_lt s 4 (by omega)
  have hwn : IntKind.i64.wrap (wd s 4 : Int) = (wd s 4 : Int) := by simp only [IntKind.wrap_i64]; omega
  have hwl : IntKind.i64.wrap ((s.length : Int) - 40) = (s.length : Int) - 40 := by simp only [IntKind.wrap_i64]; omega
  have hz6 : ((by8 s 6 : Int) == 0) = false := by simp; omega
  have hsb := Str_size (bd6 s)
  rw [hbl] at hsb
  have hq5 : decide ((1400 : Int) < (wd s 4 : Int)) = true := by simp; omega
  generalize by8 s 0 / 16 = v at *
  generalize by8 s 0 = x at *
  clear b0
  have hq3 : decide ((s.length : Int) - 40 < (wd s 4 : Int)) = false := by simp; omega
  have i6 : (6 : Int) < (s.length : Int) := by omega
  have e6 := Str_at s 6 (lt_sizeq i6)
  have i7 : (7 : Int) < (s.length : Int) := by omega
  have e7 := Str_at s 7 (lt_sizeq i7)
  have u6 := by8_lt s 6; have u7 := by8_lt s 7
  have v6 : IntKind.i64.wrap (by8 s 6 : Int) = (by8 s 6 : Int) := by simp only [IntKind.wrap_i64]; omega
  have v7 : IntKind.i64.wrap (by8 s 7 : Int) = (by8 s 7 : Int) := by simp only [IntKind.wrap_i64]; omega
  have hi2 : (2 : Int) ≤ (s.length : Int) := by omega
  have hi24 : (24 : Int) ≤ (s.length : Int) := by omega
  have hi40 : (40 : Int) ≤ (s.length : Int) := by omega
  have hNa : Hid (∀ W, Calls Try.prog 26 #[.string ((Str s).extract 0 2)] W fun x w' => x = .returned (.int .u64 (num (s.take 2))) ∧ w' = W) := Lib.hid fun W => rnum4 s hs 0 2 W
  have hNb : Hid (∀ W, Calls Try.prog 26 #[.string ((Str s).extract 0 4)] W fun x w' => x = .returned (.int .u64 (num (s.take 4))) ∧ w' = W) := Lib.hid fun W => rnum4 s hs 0 4 W
  have bna := num_take_lt s
  have bnb := num_lt (s.take 4)
  obtain ⟨na, hna⟩ : ∃ x, x = num (s.take 2) := ⟨_, rfl⟩
  obtain ⟨nb, hnb⟩ : ∃ x, x = num (s.take 4) := ⟨_, rfl⟩
  obtain ⟨qa, hqa⟩ : ∃ x, x = na / 16 := ⟨_, rfl⟩
  obtain ⟨ra, hra⟩ : ∃ x, x = qa % 256 := ⟨_, rfl⟩
  obtain ⟨rb, hrb⟩ : ∃ x, x = nb % 1048576 := ⟨_, rfl⟩
  rw [← hna] at bna hNa
  rw [← hnb] at bnb hNb
  have lqa : qa < 65536 := by rw [hqa]; omega
  have lra : ra < 256 := by rw [hra]; exact Nat.mod_lt _ (by omega)
  have lrb : rb < 1048576 := by rw [hrb]; exact Nat.mod_lt _ (by omega)
  have ta : (na : Int) / 16 = (qa : Int) := by rw [hqa]; rfl
  have ta' : (na : Int).tdiv 16 = (qa : Int) := by rw [hqa]; rfl
  have tb : (qa : Int) % 256 = (ra : Int) := by rw [hra]; rfl
  have tb' : (qa : Int).tmod 256 = (ra : Int) := by rw [hra]; rfl
  have tc : (nb : Int) % 1048576 = (rb : Int) := by rw [hrb]; rfl
  have tc' : (nb : Int).tmod 1048576 = (rb : Int) := by rw [hrb]; rfl
  have HRA := Lib.hid (show ra = num (s.take 2) / 16 % 256 by rw [hra, hqa, hna])
  have HRB := Lib.hid (show rb = num (s.take 4) % 1048576 by rw [hrb, hnb])
  clear hna hnb hqa hra hrb bna bnb
  have y1 : IntKind.u64.wrap (qa : Int) = (qa : Int) := u64_small qa (by omega)
  have y2 : IntKind.u64.wrap (ra : Int) = (ra : Int) := u64_small ra (by omega)
  have y3 : IntKind.i64.wrap (ra : Int) = (ra : Int) := i64_small ra (by omega)
  have y4 : IntKind.u64.wrap (rb : Int) = (rb : Int) := u64_small rb (by omega)
  have y5 : IntKind.i64.wrap (rb : Int) = (rb : Int) := i64_small rb (by omega)
  have y6 : IntKind.i64.wrap (40 + (wd s 4 : Int)) = 40 + (wd s 4 : Int) := i64_forty _ bn
  have y7 : (0 : Int) ≤ 40 + (wd s 4 : Int) := by omega
  have y8 : (40 : Int) ≤ 40 + (wd s 4 : Int) := by omega
  have y9 : 40 + (wd s 4 : Int) ≤ (s.length : Int) := by omega
  have ya : (40 + (wd s 4 : Int)).toNat = 40 + wd s 4 := by omega
  have hexb : (Str s).extract 40 (40 + wd s 4) = Str (bd6 s) := by rw [Str_extract, show 40 + wd s 4 - 40 = wd s 4 by omega]; rfl
  have l8 : ((s.drop 8).take 16).length = 16 := by simp; omega
  have l24 : ((s.drop 24).take 16).length = 16 := by simp; omega
  have hA1 : Hid (∀ W, Calls Try.prog 27 #[.string ((Str s).extract 8 24)] W fun e w' => e = .returned (.tuple #[.agg (addrC true ((s.drop 8).take 16)).toArray, .bool true]) ∧ Below W.heap.size W w') := Lib.hid fun W => by
    have := rread_good true ((s.drop 8).take 16) (by omega) (by rw [l8]; rfl) (by rw [l8]; rfl) W
    rw [readV16 _ l8] at this
    rw [Str_extract]; exact this
  have hA2 : Hid (∀ W, Calls Try.prog 27 #[.string ((Str s).extract 24 40)] W fun e w' => e = .returned (.tuple #[.agg (addrC true ((s.drop 24).take 16)).toArray, .bool true]) ∧ Below W.heap.size W w') := Lib.hid fun W => by
    have := rread_good true ((s.drop 24).take 16) (by omega) (by rw [l24]; rfl) (by rw [l24]; rfl) W
    rw [readV16 _ l24] at this
    rw [Str_extract]; exact this
  have hok12 := fok_addr true _ l8
  have hok16 := fok_addr true _ l24
  have hbp := bld_part6 ra rb (by8 s 6) (by8 s 7) (bd6 s)
  obtain ⟨E0, hE0⟩ : ∃ E0 : Ip, E0 = ⟨ra, rb, by8 s 6, by8 s 7, false, [0, 0, 0, 0, 0, 0, 0, 0, 0, 0, 0, 0, 0, 0, 0, 0], false, [0, 0, 0, 0, 0, 0, 0, 0, 0, 0, 0, 0, 0, 0, 0, 0], false, bd6 s⟩ := ⟨_, rfl⟩
  obtain ⟨E1, hE1⟩ : ∃ E1 : Ip, E1 = ⟨ra, rb, by8 s 6, by8 s 7, true, (s.drop 8).take 16, true, (s.drop 24).take 16, false, bd6 s⟩ := ⟨_, rfl⟩
  rw [← hE0] at hbp
  have ok0 : E0.ok := by rw [hE0]; exact ⟨rfl, rfl⟩
  have ok1 : E1.ok := by rw [hE1]; exact ⟨l8, l24⟩
  have HEE := Lib.hid (show (⟨E0.tos, E0.id, E0.ttl, E0.pro, true, (s.drop 8).take 16, true, (s.drop 24).take 16, E0.al, E0.bd⟩ : Ip) = E1 by rw [hE0, hE1])
  have HT := Lib.hid (show E1.ttl = (by8 s 6 : Int) by rw [hE1])
  have HBD := Lib.hid (show E1.bd = bd6 s by rw [hE1])
  have HL8 := Lib.hid l8
  have HL24 := Lib.hid l24
  have hfok0 := fok_ip ok0
  have hfok1 := fok_ip ok1
  have HO0 := Lib.hid ok0
  have HO1 := Lib.hid ok1
  have hfm1 : ∀ W : World, free? (W.alloc (.cells #[.int .i64 0, .int .i64 0, .int .i64 0, .int .i64 0, .bool false, .int .u8 0, .int .u8 0, .int .u8 0, .int .u8 0, .int .u8 0, .int .u8 0, .int .u8 0, .int .u8 0, .int .u8 0, .int .u8 0, .int .u8 0, .int .u8 0, .int .u8 0, .int .u8 0, .int .u8 0, .int .u8 0, .bool false, .int .u8 0, .int .u8 0, .int .u8 0, .int .u8 0, .int .u8 0, .int .u8 0, .int .u8 0, .int .u8 0, .int .u8 0, .int .u8 0, .int .u8 0, .int .u8 0, .int .u8 0, .int .u8 0, .int .u8 0, .int .u8 0, .bool false, .string ⟨#[]⟩] 26)) W.heap.size 0 40 = true := fun W => free_made W _ _ 40 (by simp)
  have hfm2 : ∀ W : World, free? (W.alloc (.cells #[.int .i64 0, .int .i64 0, .int .i64 0, .int .i64 0, .bool false, .int .u8 0, .int .u8 0, .int .u8 0, .int .u8 0, .int .u8 0, .int .u8 0, .int .u8 0, .int .u8 0, .int .u8 0, .int .u8 0, .int .u8 0, .int .u8 0, .int .u8 0, .int .u8 0, .int .u8 0, .int .u8 0, .bool false, .int .u8 0, .int .u8 0, .int .u8 0, .int .u8 0, .int .u8 0, .int .u8 0, .int .u8 0, .int .u8 0, .int .u8 0, .int .u8 0, .int .u8 0, .int .u8 0, .int .u8 0, .int .u8 0, .int .u8 0, .int .u8 0, .bool false, .string ⟨#[]⟩] 26)).drew W.heap.size 0 40 = true := fun W => free_made W _ _ 40 (by simp)
  have hfm3 : ∀ W : World, free? (W.drew.alloc (.cells #[.int .i64 0, .int .i64 0, .int .i64 0, .int .i64 0, .bool false, .int .u8 0, .int .u8 0, .int .u8 0, .int .u8 0, .int .u8 0, .int .u8 0, .int .u8 0, .int .u8 0, .int .u8 0, .int .u8 0, .int .u8 0, .int .u8 0, .int .u8 0, .int .u8 0, .int .u8 0, .int .u8 0, .bool false, .int .u8 0, .int .u8 0, .int .u8 0, .int .u8 0, .int .u8 0, .int .u8 0, .int .u8 0, .int .u8 0, .int .u8 0, .int .u8 0, .int .u8 0, .int .u8 0, .int .u8 0, .int .u8 0, .int .u8 0, .int .u8 0, .bool false, .string ⟨#[]⟩] 26)) W.heap.size 0 40 = true := fun W => free_made W.drew _ _ 40 (by simp)
  have hfm5 : ∀ (W : World) (d : Nat), free? ((W.alloc (.cells #[.int .i64 0, .int .i64 0, .int .i64 0, .int .i64 0, .bool false, .int .u8 0, .int .u8 0, .int .u8 0, .int .u8 0, .int .u8 0, .int .u8 0, .int .u8 0, .int .u8 0, .int .u8 0, .int .u8 0, .int .u8 0, .int .u8 0, .int .u8 0, .int .u8 0, .int .u8 0, .int .u8 0, .bool false, .int .u8 0, .int .u8 0, .int .u8 0, .int .u8 0, .int .u8 0, .int .u8 0, .int .u8 0, .int .u8 0, .int .u8 0, .int .u8 0, .int .u8 0, .int .u8 0, .int .u8 0, .int .u8 0, .int .u8 0, .int .u8 0, .bool false, .string ⟨#[]⟩] 26)).drewN d) W.heap.size 0 40 = true := fun W d => free_drewN (hfm1 W) d
  generalize (s.drop 8).take 16 = A1 at *
  generalize (s.drop 24).take 16 = A2 at *
  generalize wd s 4 = n at *
  generalize by8 s 6 = b6 at *
  generalize by8 s 7 = b7 at *
  generalize bd6 s = BD at *
  clear hs h1 h2 h3 bn u6 u7 hE0 ok0 ok1 l8 l24 hE1 hE
  clear h4
  have H0 := Lib.hid (QR.start w)
  have hbz := bld_zeroQ
  have hfok := fok_ip zeroI_ok
  have hf0 := free_made (w.alloc (.cells #[.int .i64 0, .int .i64 0, .int .i64 0, .int .i64 0, .bool false, .int .u8 0, .int .u8 0, .int .u8 0, .int .u8 0, .int .u8 0, .int .u8 0, .int .u8 0, .int .u8 0, .int .u8 0, .int .u8 0, .int .u8 0, .int .u8 0, .int .u8 0, .int .u8 0, .int .u8 0, .int .u8 0, .bool false, .int .u8 0, .int .u8 0, .int .u8 0, .int .u8 0, .int .u8 0, .int .u8 0, .int .u8 0, .int .u8 0, .int .u8 0, .int .u8 0, .int .u8 0, .int .u8 0, .int .u8 0, .int .u8 0, .int .u8 0, .int .u8 0, .bool false, .string ⟨#[]⟩] 26)) #[.int .i64 0, .int .i64 0, .int .i64 0, .int .i64 0, .bool false, .int .u8 0, .int .u8 0, .int .u8 0, .int .u8 0, .int .u8 0, .int .u8 0, .int .u8 0, .int .u8 0, .int .u8 0, .int .u8 0, .int .u8 0, .int .u8 0, .int .u8 0, .int .u8 0, .int .u8 0, .int .u8 0, .bool false, .int .u8 0, .int .u8 0, .int .u8 0, .int .u8 0, .int .u8 0, .int .u8 0, .int .u8 0, .int .u8 0, .int .u8 0, .int .u8 0, .int .u8 0, .int .u8 0, .int .u8 0, .int .u8 0, .int .u8 0, .int .u8 0, .bool false, .string ⟨#[]⟩] 26 40 (by simp)
  rw [show (w.alloc (.cells #[.int .i64 0, .int .i64 0, .int .i64 0, .int .i64 0, .bool false, .int .u8 0, .int .u8 0, .int .u8 0, .int .u8 0, .int .u8 0, .int .u8 0, .int .u8 0, .int .u8 0, .int .u8 0, .int .u8 0, .int .u8 0, .int .u8 0, .int .u8 0, .int .u8 0, .int .u8 0, .int .u8 0, .bool false, .int .u8 0, .int .u8 0, .int .u8 0, .int .u8 0, .int .u8 0, .int .u8 0, .int .u8 0, .int .u8 0, .int .u8 0, .int .u8 0, .int .u8 0, .int .u8 0, .int .u8 0, .int .u8 0, .int .u8 0, .int .u8 0, .bool false, .string ⟨#[]⟩] 26)).heap.size = w.heap.size + 1 by simp] at hf0
  rw [zeroI_cells] at H0
  go_enter Try.func15, Try.ntmps15
  go_upto_region 2 with (fail)
  generalize aggW ((w.alloc (.cells #[.int .i64 0, .int .i64 0, .int .i64 0, .int .i64 0, .bool false, .int .u8 0, .int .u8 0, .int .u8 0, .int .u8 0, .int .u8 0, .int .u8 0, .int .u8 0, .int .u8 0, .int .u8 0, .int .u8 0, .int .u8 0, .int .u8 0, .int .u8 0, .int .u8 0, .int .u8 0, .int .u8 0, .bool false, .int .u8 0, .int .u8 0, .int .u8 0, .int .u8 0, .int .u8 0, .int .u8 0, .int .u8 0, .int .u8 0, .int .u8 0, .int .u8 0, .int .u8 0, .int .u8 0, .int .u8 0, .int .u8 0, .int .u8 0, .int .u8 0, .bool false, .string ⟨#[]⟩] 26)).alloc (.cells #[.int .i64 0, .int .i64 0, .int .i64 0, .int .i64 0, .bool false, .int .u8 0, .int .u8 0, .int .u8 0, .int .u8 0, .int .u8 0, .int .u8 0, .int .u8 0, .int .u8 0, .int .u8 0, .int .u8 0, .int .u8 0, .int .u8 0, .int .u8 0, .int .u8 0, .int .u8 0, .int .u8 0, .bool false, .int .u8 0, .int .u8 0, .int .u8 0, .int .u8 0, .int .u8 0, .int .u8 0, .int .u8 0, .int .u8 0, .int .u8 0, .int .u8 0, .int .u8 0, .int .u8 0, .int .u8 0, .int .u8 0, .int .u8 0, .int .u8 0, .bool false, .string ⟨#[]⟩] 26)) (w.heap.size + 1) _ = W at H0 ⊢
  clear hf0
  have hr := H0.out.row
  have hf := H0.out.free
  go_upto_region 9 with (go_at_call 26; (with_reducible refine (hN4.out _).mono ?_); rintro x w5 ⟨rfl, hw5⟩; subst hw5)
  clear hr hf
  go_cut [6] from 11 (fun q wr => ∃ m : Nat, q = .pointer (some ⟨m, 0, none⟩) ∧ QG w wr m E0)
  case first =>
    refine wp_region_held_drew (S := fun _ => True) (by kernel_rfl) (trivial) (fun hHeld => ?_)
    refine wpAnyH_take (i := 0) (oi := { dst := some 31, op := _, type := _, pos := _, after := _, guard := _ }) (v := ?v1) rfl (by kernel_rfl) (by kernel_rfl) (by kernel_rfl) (fun _ _ _ h => h) (Or.inl ⟨by rfl, ?y1⟩) (by assumption) ?r1
    case y1 => (intro w hSw; go_simp; try with_reducible rfl)
    try simp only [Act.put, List.setIfInBounds_toArray, List.set_cons_zero, List.set_cons_succ]
    refine wpAnyH_take (i := 1) (oi := { dst := some 32, op := _, type := _, pos := _, after := _, guard := _ }) (v := ?v2) rfl (by kernel_rfl) (by kernel_rfl) (by kernel_rfl) (fun _ _ _ h => h) (Or.inl ⟨by rfl, ?y2⟩) (by assumption) ?r2
    case y2 => (intro w hSw; go_simp; try with_reducible rfl)
    try simp only [Act.put, List.setIfInBounds_toArray, List.set_cons_zero, List.set_cons_succ]
    refine wpAnyH_take (i := 6) (oi := { dst := some 37, op := _, type := _, pos := _, after := _, guard := _ }) (v := ?v3) rfl (by kernel_rfl) (by kernel_rfl) (by kernel_rfl) (fun _ _ _ h => h) (Or.inl ⟨by rfl, ?y3⟩) (by assumption) ?r3
    case y3 => (intro w hSw; go_simp; try with_reducible rfl)
    try simp only [Act.put, List.setIfInBounds_toArray, List.set_cons_zero, List.set_cons_succ]
    refine wpAnyH_take (i := 7) (oi := { dst := some 38, op := _, type := _, pos := _, after := _, guard := _ }) (v := ?v4) rfl (by kernel_rfl) (by kernel_rfl) (by kernel_rfl) (fun _ _ _ h => h) (Or.inl ⟨by rfl, ?y4⟩) (by assumption) ?r4
    case y4 => (intro w hSw; go_simp; try with_reducible rfl)
    try simp only [Act.put, List.setIfInBounds_toArray, List.set_cons_zero, List.set_cons_succ]
    refine wpAnyH_take (i := 11) (oi := { dst := some 42, op := _, type := _, pos := _, after := _, guard := _ }) (v := ?v5) rfl (by kernel_rfl) (by kernel_rfl) (by kernel_rfl) (fun _ _ _ h => h) (Or.inl ⟨by rfl, ?y5⟩) (by assumption) ?r5
    case y5 => (intro w hSw; go_simp; try with_reducible rfl)
    try simp only [Act.put, List.setIfInBounds_toArray, List.set_cons_zero, List.set_cons_succ]
    refine wpAnyH_take (i := 12) (oi := { dst := some 43, op := _, type := _, pos := _, after := _, guard := _ }) (v := ?v6) rfl (by kernel_rfl) (by kernel_rfl) (by kernel_rfl) (fun _ _ _ h => h) (Or.inl ⟨by rfl, ?y6⟩) (by assumption) ?r6
    case y6 => (intro w hSw; go_simp; try with_reducible rfl)
    try simp only [Act.put, List.setIfInBounds_toArray, List.set_cons_zero, List.set_cons_succ]
    refine wpAnyH_take (i := 13) (oi := { dst := some 44, op := _, type := _, pos := _, after := _, guard := _ }) (v := ?v7) rfl (by kernel_rfl) (by kernel_rfl) (by kernel_rfl) (fun _ _ _ h => h) (Or.inl ⟨by rfl, ?y7⟩) (by assumption) ?r7
    case y7 => (intro w hSw; go_simp; try with_reducible rfl)
    try simp only [Act.put, List.setIfInBounds_toArray, List.set_cons_zero, List.set_cons_succ]
    refine wpAnyH_take (i := 14) (oi := { dst := some 45, op := _, type := _, pos := _, after := _, guard := _ }) (v := ?v8) rfl (by kernel_rfl) (by kernel_rfl) (by kernel_rfl) (fun _ _ _ h => h) (Or.inl ⟨by rfl, ?y8⟩) (by assumption) ?r8
    case y8 => (intro w hSw; go_simp; try with_reducible rfl)
    try simp only [Act.put, List.setIfInBounds_toArray, List.set_cons_zero, List.set_cons_succ]
    refine wpAnyH_take (i := 15) (oi := { dst := some 46, op := _, type := _, pos := _, after := _, guard := _ }) (v := ?v9) rfl (by kernel_rfl) (by kernel_rfl) (by kernel_rfl) (fun _ _ _ h => h) (Or.inl ⟨by rfl, ?y9⟩) (by assumption) ?r9
    case y9 => (intro w hSw; go_simp; try with_reducible rfl)
    try simp only [Act.put, List.setIfInBounds_toArray, List.set_cons_zero, List.set_cons_succ]
    refine wpAnyH_take (i := 16) (oi := { dst := some 47, op := _, type := _, pos := _, after := _, guard := _ }) (v := ?v10) rfl (by kernel_rfl) (by kernel_rfl) (by kernel_rfl) (fun _ _ _ h => h) (Or.inl ⟨by rfl, ?y10⟩) (by assumption) ?r10
    case y10 => (intro w hSw; go_simp; try with_reducible rfl)
    try simp only [Act.put, List.setIfInBounds_toArray, List.set_cons_zero, List.set_cons_succ]
    refine wpAnyH_take (i := 17) (oi := { dst := some 48, op := _, type := _, pos := _, after := _, guard := _ }) (v := ?v11) rfl (by kernel_rfl) (by kernel_rfl) (by kernel_rfl) (fun _ _ _ h => h) (Or.inl ⟨by rfl, ?y11⟩) (by assumption) ?r11
    case y11 => (intro w hSw; go_simp; try with_reducible rfl)
    try simp only [Act.put, List.setIfInBounds_toArray, List.set_cons_zero, List.set_cons_succ]
    refine wpAnyH_take (i := 18) (oi := { dst := some 49, op := _, type := _, pos := _, after := _, guard := _ }) (v := ?v12) rfl (by kernel_rfl) (by kernel_rfl) (by kernel_rfl) (fun _ _ _ h => h) (Or.inl ⟨by rfl, ?y12⟩) (by assumption) ?r12
    case y12 => (intro w hSw; go_simp; try with_reducible rfl)
    try simp only [Act.put, List.setIfInBounds_toArray, List.set_cons_zero, List.set_cons_succ]
    refine wpAnyH_take (i := 19) (oi := { dst := some 50, op := _, type := _, pos := _, after := _, guard := _ }) (v := ?v13) rfl (by kernel_rfl) (by kernel_rfl) (by kernel_rfl) (fun _ _ _ h => h) (Or.inl ⟨by rfl, ?y13⟩) (by assumption) ?r13
    case y13 => (intro w hSw; go_simp; try with_reducible rfl)
    try simp only [Act.put, List.setIfInBounds_toArray, List.set_cons_zero, List.set_cons_succ]
    refine wpAnyH_take (i := 20) (oi := { dst := some 51, op := _, type := _, pos := _, after := _, guard := _ }) (v := ?v14) rfl (by kernel_rfl) (by kernel_rfl) (by kernel_rfl) (fun _ _ _ h => h) (Or.inl ⟨by rfl, ?y14⟩) (by assumption) ?r14
    case y14 => (intro w hSw; go_simp; try with_reducible rfl)
    try simp only [Act.put, List.setIfInBounds_toArray, List.set_cons_zero, List.set_cons_succ]
    refine wpAnyH_ready (rs := [2, 22]) (by kernel_rfl) (by simp) (AllReadyH.cons (o := _) rfl (fun K hK => ?_) (AllReadyH.cons (o := _) rfl (fun K hK => ?_) AllReadyH.nil))
    · go_simp
      (go_at_call 26; (with_reducible refine (hNa.out _).mono ?_); rintro x w5 ⟨rfl, hw5⟩; subst hw5)
      try go_wp2_with fail
      refine hK.out _ _ (trivial) (fun hHeld => ?_)
      clear hK K
      try simp only [Act.put, List.setIfInBounds_toArray, List.set_cons_zero, List.set_cons_succ]
      refine wpAnyH_take (i := 3) (oi := { dst := some 34, op := _, type := _, pos := _, after := _, guard := _ }) (v := ?v15) rfl (by kernel_rfl) (by kernel_rfl) (by kernel_rfl) (fun _ _ _ h => h) (Or.inl ⟨by rfl, ?y15⟩) (by assumption) ?r15
      case y15 => (intro w hSw; go_simp; try with_reducible rfl)
      try simp only [Act.put, List.setIfInBounds_toArray, List.set_cons_zero, List.set_cons_succ]
      refine wpAnyH_take (i := 4) (oi := { dst := some 35, op := _, type := _, pos := _, after := _, guard := _ }) (v := ?v16) rfl (by kernel_rfl) (by kernel_rfl) (by kernel_rfl) (fun _ _ _ h => h) (Or.inl ⟨by rfl, ?y16⟩) (by assumption) ?r16
      case y16 => (intro w hSw; go_simp; try with_reducible rfl)
      try simp only [Act.put, List.setIfInBounds_toArray, List.set_cons_zero, List.set_cons_succ]
      refine wpAnyH_take (i := 5) (oi := { dst := some 36, op := _, type := _, pos := _, after := _, guard := _ }) (v := ?v17) rfl (by kernel_rfl) (by kernel_rfl) (by kernel_rfl) (fun _ _ _ h => h) (Or.inl ⟨by rfl, ?y17⟩) (by assumption) ?r17
      case y17 => (intro w hSw; go_simp; try with_reducible rfl)
      try simp only [Act.put, List.setIfInBounds_toArray, List.set_cons_zero, List.set_cons_succ]
      refine wpAnyH_ready (rs := [8, 22]) (by kernel_rfl) (by simp) (AllReadyH.cons (o := _) rfl (fun K hK => ?_) (AllReadyH.cons (o := _) rfl (fun K hK => ?_) AllReadyH.nil))
      · go_simp
        (go_at_call 26; (with_reducible refine (hNb.out _).mono ?_); rintro x w5 ⟨rfl, hw5⟩; subst hw5)
        try go_wp2_with fail
        refine hK.out _ _ (trivial) (fun hHeld => ?_)
        clear hK K
        try simp only [Act.put, List.setIfInBounds_toArray, List.set_cons_zero, List.set_cons_succ]
        refine wpAnyH_take (i := 9) (oi := { dst := some 40, op := _, type := _, pos := _, after := _, guard := _ }) (v := ?v18) rfl (by kernel_rfl) (by kernel_rfl) (by kernel_rfl) (fun _ _ _ h => h) (Or.inl ⟨by rfl, ?y18⟩) (by assumption) ?r18
        case y18 => (intro w hSw; go_simp; try with_reducible rfl)
        try simp only [Act.put, List.setIfInBounds_toArray, List.set_cons_zero, List.set_cons_succ]
        refine wpAnyH_take (i := 10) (oi := { dst := some 41, op := _, type := _, pos := _, after := _, guard := _ }) (v := ?v19) rfl (by kernel_rfl) (by kernel_rfl) (by kernel_rfl) (fun _ _ _ h => h) (Or.inl ⟨by rfl, ?y19⟩) (by assumption) ?r19
        case y19 => (intro w hSw; go_simp; try with_reducible rfl)
        try simp only [Act.put, List.setIfInBounds_toArray, List.set_cons_zero, List.set_cons_succ]
        refine wpAnyH_take (i := 21) (oi := { dst := some 52, op := _, type := _, pos := _, after := _, guard := _ }) (v := ?v20) rfl (by kernel_rfl) (by kernel_rfl) (by kernel_rfl) (fun _ _ _ h => h) (Or.inl ⟨by rfl, ?y20⟩) (by assumption) ?r20
        case y20 => (intro w hSw; go_simp; try with_reducible rfl)
        try simp only [Act.put, List.setIfInBounds_toArray, List.set_cons_zero, List.set_cons_succ]
        refine wpAnyH_ready (rs := [22]) (by kernel_rfl) (by simp) (AllReadyH.cons (o := _) rfl (fun K hK => ?_) AllReadyH.nil)
        go_simp
        refine hK.out _ _ (trivial) (fun hHeld => ?_)
        clear hK K
        try simp only [Act.put, List.setIfInBounds_toArray, List.set_cons_zero, List.set_cons_succ]
        refine wpAnyH_ready (rs := [23]) (by kernel_rfl) (by simp) (AllReadyH.cons (o := _) rfl (fun K hK => ?_) AllReadyH.nil)
        go_simp
        refine hK.out _ _ (trivial) (fun hHeld => ?_)
        clear hK K
        try simp only [Act.put, List.setIfInBounds_toArray, List.set_cons_zero, List.set_cons_succ]
        refine wpAnyH_done (by kernel_rfl) ?_ _
        go_wp2
        go_meet
        case rel => exact ⟨_, rfl, by first | exact QG.made H0.out E0 HO0.out | exact QG.made (H0.out.drewN 1) E0 HO0.out | exact QG.made (H0.out.drewN 2) E0 HO0.out | exact QG.made (H0.out.drewN 3) E0 HO0.out⟩
      · go_simp
        refine hK.out _ _ (trivial) (fun hHeld => ?_)
        clear hK K
        try simp only [Act.put, List.setIfInBounds_toArray, List.set_cons_zero, List.set_cons_succ]
        refine wpAnyH_ready (rs := [8]) (by kernel_rfl) (by simp) (AllReadyH.cons (o := _) rfl (fun K hK => ?_) AllReadyH.nil)
        go_simp
        (go_at_call 26; (with_reducible refine (hNb.out _).mono ?_); rintro x w5 ⟨rfl, hw5⟩; subst hw5)
        try go_wp2_with fail
        refine hK.out _ _ (trivial) (fun hHeld => ?_)
        clear hK K
        try simp only [Act.put, List.setIfInBounds_toArray, List.set_cons_zero, List.set_cons_succ]
        refine wpAnyH_take (i := 9) (oi := { dst := some 40, op := _, type := _, pos := _, after := _, guard := _ }) (v := ?v21) rfl (by kernel_rfl) (by kernel_rfl) (by kernel_rfl) (fun _ _ _ h => h) (Or.inl ⟨by rfl, ?y21⟩) (by assumption) ?r21
        case y21 => (intro w hSw; go_simp; try with_reducible rfl)
        try simp only [Act.put, List.setIfInBounds_toArray, List.set_cons_zero, List.set_cons_succ]
        refine wpAnyH_take (i := 10) (oi := { dst := some 41, op := _, type := _, pos := _, after := _, guard := _ }) (v := ?v22) rfl (by kernel_rfl) (by kernel_rfl) (by kernel_rfl) (fun _ _ _ h => h) (Or.inl ⟨by rfl, ?y22⟩) (by assumption) ?r22
        case y22 => (intro w hSw; go_simp; try with_reducible rfl)
        try simp only [Act.put, List.setIfInBounds_toArray, List.set_cons_zero, List.set_cons_succ]
        refine wpAnyH_take (i := 21) (oi := { dst := some 52, op := _, type := _, pos := _, after := _, guard := _ }) (v := ?v23) rfl (by kernel_rfl) (by kernel_rfl) (by kernel_rfl) (fun _ _ _ h => h) (Or.inl ⟨by rfl, ?y23⟩) (by assumption) ?r23
        case y23 => (intro w hSw; go_simp; try with_reducible rfl)
        try simp only [Act.put, List.setIfInBounds_toArray, List.set_cons_zero, List.set_cons_succ]
        refine wpAnyH_ready (rs := [23]) (by kernel_rfl) (by simp) (AllReadyH.cons (o := _) rfl (fun K hK => ?_) AllReadyH.nil)
        go_simp
        refine hK.out _ _ (trivial) (fun hHeld => ?_)
        clear hK K
        try simp only [Act.put, List.setIfInBounds_toArray, List.set_cons_zero, List.set_cons_succ]
        refine wpAnyH_done (by kernel_rfl) ?_ _
        go_wp2
        go_meet
        case rel => exact ⟨_, rfl, by first | exact QG.made H0.out E0 HO0.out | exact QG.made (H0.out.drewN 1) E0 HO0.out | exact QG.made (H0.out.drewN 2) E0 HO0.out | exact QG.made (H0.out.drewN 3) E0 HO0.out⟩
    · go_simp
      refine hK.out _ _ (trivial) (fun hHeld => ?_)
      clear hK K
      try simp only [Act.put, List.setIfInBounds_toArray, List.set_cons_zero, List.set_cons_succ]
      refine wpAnyH_ready (rs := [2]) (by kernel_rfl) (by simp) (AllReadyH.cons (o := _) rfl (fun K hK => ?_) AllReadyH.nil)
      go_simp
      (go_at_call 26; (with_reducible refine (hNa.out _).mono ?_); rintro x w5 ⟨rfl, hw5⟩; subst hw5)
      try go_wp2_with fail
      refine hK.out _ _ (trivial) (fun hHeld => ?_)
      clear hK K
      try simp only [Act.put, List.setIfInBounds_toArray, List.set_cons_zero, List.set_cons_succ]
      refine wpAnyH_take (i := 3) (oi := { dst := some 34, op := _, type := _, pos := _, after := _, guard := _ }) (v := ?v24) rfl (by kernel_rfl) (by kernel_rfl) (by kernel_rfl) (fun _ _ _ h => h) (Or.inl ⟨by rfl, ?y24⟩) (by assumption) ?r24
      case y24 => (intro w hSw; go_simp; try with_reducible rfl)
      try simp only [Act.put, List.setIfInBounds_toArray, List.set_cons_zero, List.set_cons_succ]
      refine wpAnyH_take (i := 4) (oi := { dst := some 35, op := _, type := _, pos := _, after := _, guard := _ }) (v := ?v25) rfl (by kernel_rfl) (by kernel_rfl) (by kernel_rfl) (fun _ _ _ h => h) (Or.inl ⟨by rfl, ?y25⟩) (by assumption) ?r25
      case y25 => (intro w hSw; go_simp; try with_reducible rfl)
      try simp only [Act.put, List.setIfInBounds_toArray, List.set_cons_zero, List.set_cons_succ]
      refine wpAnyH_take (i := 5) (oi := { dst := some 36, op := _, type := _, pos := _, after := _, guard := _ }) (v := ?v26) rfl (by kernel_rfl) (by kernel_rfl) (by kernel_rfl) (fun _ _ _ h => h) (Or.inl ⟨by rfl, ?y26⟩) (by assumption) ?r26
      case y26 => (intro w hSw; go_simp; try with_reducible rfl)
      try simp only [Act.put, List.setIfInBounds_toArray, List.set_cons_zero, List.set_cons_succ]
      refine wpAnyH_ready (rs := [8]) (by kernel_rfl) (by simp) (AllReadyH.cons (o := _) rfl (fun K hK => ?_) AllReadyH.nil)
      go_simp
      (go_at_call 26; (with_reducible refine (hNb.out _).mono ?_); rintro x w5 ⟨rfl, hw5⟩; subst hw5)
      try go_wp2_with fail
      refine hK.out _ _ (trivial) (fun hHeld => ?_)
      clear hK K
      try simp only [Act.put, List.setIfInBounds_toArray, List.set_cons_zero, List.set_cons_succ]
      refine wpAnyH_take (i := 9) (oi := { dst := some 40, op := _, type := _, pos := _, after := _, guard := _ }) (v := ?v27) rfl (by kernel_rfl) (by kernel_rfl) (by kernel_rfl) (fun _ _ _ h => h) (Or.inl ⟨by rfl, ?y27⟩) (by assumption) ?r27
      case y27 => (intro w hSw; go_simp; try with_reducible rfl)
      try simp only [Act.put, List.setIfInBounds_toArray, List.set_cons_zero, List.set_cons_succ]
      refine wpAnyH_take (i := 10) (oi := { dst := some 41, op := _, type := _, pos := _, after := _, guard := _ }) (v := ?v28) rfl (by kernel_rfl) (by kernel_rfl) (by kernel_rfl) (fun _ _ _ h => h) (Or.inl ⟨by rfl, ?y28⟩) (by assumption) ?r28
      case y28 => (intro w hSw; go_simp; try with_reducible rfl)
      try simp only [Act.put, List.setIfInBounds_toArray, List.set_cons_zero, List.set_cons_succ]
      refine wpAnyH_take (i := 21) (oi := { dst := some 52, op := _, type := _, pos := _, after := _, guard := _ }) (v := ?v29) rfl (by kernel_rfl) (by kernel_rfl) (by kernel_rfl) (fun _ _ _ h => h) (Or.inl ⟨by rfl, ?y29⟩) (by assumption) ?r29
      case y29 => (intro w hSw; go_simp; try with_reducible rfl)
      try simp only [Act.put, List.setIfInBounds_toArray, List.set_cons_zero, List.set_cons_succ]
      refine wpAnyH_ready (rs := [23]) (by kernel_rfl) (by simp) (AllReadyH.cons (o := _) rfl (fun K hK => ?_) AllReadyH.nil)
      go_simp
      refine hK.out _ _ (trivial) (fun hHeld => ?_)
      clear hK K
      try simp only [Act.put, List.setIfInBounds_toArray, List.set_cons_zero, List.set_cons_succ]
      refine wpAnyH_done (by kernel_rfl) ?_ _
      go_wp2
      go_meet
      case rel => exact ⟨_, rfl, by first | exact QG.made H0.out E0 HO0.out | exact QG.made (H0.out.drewN 1) E0 HO0.out | exact QG.made (H0.out.drewN 2) E0 HO0.out | exact QG.made (H0.out.drewN 3) E0 HO0.out⟩
  case rest =>
    obtain ⟨m, rfl, hg⟩ := hcut
    have H4 := Lib.hid hg
    clear hg ta ta' tb tb' tc tc' y1 y2 y3 y4 y5 y6 y7 y8 y9 ya hfm1 hfm2 hfm3 hfm5 hbp hwl hwn hdv hdt hwv
    go_upto_region 11 with (go_at_call 27; (with_reducible refine (hA1.out _).mono ?_); rintro x w6 ⟨rfl, hb6⟩; have H5 := Lib.hid (H4.out.below hb6); have f4 := H5.out.free4; clear hb6)
    go_upto_region 12 with (go_at_call 27; (with_reducible refine (hA2.out _).mono ?_); rintro x w7 ⟨rfl, hb7⟩; have H6 := Lib.hid ((H5.out.fr true A1 HL8.out).below hb7); have f21 := H6.out.free21; have h7 := H6.out.to true A2 HL24.out; simp only at h7; rw [HEE.out] at h7; have H7 := Lib.hid h7; clear hb7 h7)
    generalize aggO w7 m 21 _ = W8 at H7 ⊢
    clear f4 f21 H5 H6
    have c2 := H7.out.2.1.ttl
    rw [HT.out] at c2
    have c39 := H7.out.2.1.bd HO1.out
    rw [HBD.out] at c39
    have hr := H7.out.1.row
    have hrm := H7.out.2.1.row HO1.out
    have hf := H7.out.1.free
    go_upto_region 24 with (fail)
    repeat (first | go_values | go_skip | go_guarded | go_step | go_upon | go_in)
    obtain ⟨q1, q2⟩ := H7.out.1.done zeroI zeroI_ok
    exact bodyPost_ret (results_cell2 Try.results15 rfl (ld_some q1 (ldr_iq _ _ _))) rfl ⟨by rw [HR.out]; rfl, q2⟩

set_option maxRecDepth 100000 in
set_option maxHeartbeats 4000000 in
theorem rread6_nogood (s : List UInt8) (hs : s.length ≤ 100000) (h1 : ¬ s.length < 40) (h2 : ¬ by8 s 0 / 16 ≠ 6) (h3 : ¬ s.length < wd s 4 + 40) (h4 : by8 s 6 ≠ 0) (h5 : ¬ 1400 < wd s 4) (w : World) :
    Calls Try.prog 15 #[.string (Str s)] w fun x w' => x = .returned (.tuple #[.agg (ipC (readV6 s).1).toArray, .int .i64 (readV6 s).2]) ∧ Below w.heap.size w w' := by
  have hE : hdE6 s = 0 := hdE6_of (by omega) (by omega) (by omega)
  have hbl : (bd6 s).length = wd s 4 := (hdE6_zero hE).2.2.2
  have HR := Lib.hid (show readV6 s = (iqOf s, 0) by
    unfold readV6; rw [why6_no hE h4, hbl]; rw [if_neg h5, if_pos rfl])
  have hsz := Str_size s
  have hq : decide ((s.length : Int) < 40) = false := by simp; omega
  have hp0 : 0 < s.length := by omega
  have hi0 : (0 : Int) < (s.length : Int) := by omega
  have e0 := Str_at s 0 (lt_zeroq hi0)
  have b0 := by8_lt s 0
  have hdv : (by8 s 0 : Int) / 16 = ((by8 s 0 / 16 : Nat) : Int) := rfl
  have hdt : (by8 s 0 : Int).tdiv 16 = ((by8 s 0 / 16 : Nat) : Int) := rfl
  have hwv : IntKind.u8.wrap ((by8 s 0 / 16 : Nat) : Int) = ((by8 s 0 / 16 : Nat) : Int) := by simp only [IntKind.wrap_u8]; omega
  have hv6 : (((by8 s 0 / 16 : Nat) : Int) != 6) = false := by simp; omega
  have hi4 : (4 : Int) ≤ (s.length : Int) := by omega
  have hi6 : (6 : Int) ≤ (s.length : Int) := by omega
  have hN4 : Hid (∀ W, Calls Try.prog 26 #[.string ((Str s).extract 4 6)] W fun x w' => x = .returned (.int .u64 (wd s 4)) ∧ w' = W) := Lib.hid fun W => rnum4 s hs 4 6 W
  have bn := wd_lt s 4 (by omega)
  have hwn : IntKind.i64.wrap (wd s 4 : Int) = (wd s 4 : Int) := by simp only [IntKind.wrap_i64]; omega
  have hwl : IntKind.i64.wrap ((s.length : Int) - 40) = (s.length : Int) - 40 := by simp only [IntKind.wrap_i64]; omega
  have hz6 : ((by8 s 6 : Int) == 0) = false := by simp; omega
  have hsb := Str_size (bd6 s)
  rw [hbl] at hsb
  have hq5 : decide ((1400 : Int) < (wd s 4 : Int)) = false := by simp; omega
  generalize by8 s 0 / 16 = v at *
  generalize by8 s 0 = x at *
  clear b0
  have hq3 : decide ((s.length : Int) - 40 < (wd s 4 : Int)) = false := by simp; omega
  have i6 : (6 : Int) < (s.length : Int) := by omega
  have e6 := Str_at s 6 (lt_sizeq i6)
  have i7 : (7 : Int) < (s.length : Int) := by omega
  have e7 := Str_at s 7 (lt_sizeq i7)
  have u6 := by8_lt s 6; have u7 := by8_lt s 7
  have v6 : IntKind.i64.wrap (by8 s 6 : Int) = (by8 s 6 : Int) := by simp only [IntKind.wrap_i64]; omega
  have v7 : IntKind.i64.wrap (by8 s 7 : Int) = (by8 s 7 : Int) := by simp only [IntKind.wrap_i64]; omega
  have hi2 : (2 : Int) ≤ (s.length : Int) := by omega
  have hi24 : (24 : Int) ≤ (s.length : Int) := by omega
  have hi40 : (40 : Int) ≤ (s.length : Int) := by omega
  have hNa : Hid (∀ W, Calls Try.prog 26 #[.string ((Str s).extract 0 2)] W fun x w' => x = .returned (.int .u64 (num (s.take 2))) ∧ w' = W) := Lib.hid fun W => rnum4 s hs 0 2 W
  have hNb : Hid (∀ W, Calls Try.prog 26 #[.string ((Str s).extract 0 4)] W fun x w' => x = .returned (.int .u64 (num (s.take 4))) ∧ w' = W) := Lib.hid fun W => rnum4 s hs 0 4 W
  have bna := num_take_lt s
  have bnb := num_lt (s.take 4)
  obtain ⟨na, hna⟩ : ∃ x, x = num (s.take 2) := ⟨_, rfl⟩
  obtain ⟨nb, hnb⟩ : ∃ x, x = num (s.take 4) := ⟨_, rfl⟩
  obtain ⟨qa, hqa⟩ : ∃ x, x = na / 16 := ⟨_, rfl⟩
  obtain ⟨ra, hra⟩ : ∃ x, x = qa % 256 := ⟨_, rfl⟩
  obtain ⟨rb, hrb⟩ : ∃ x, x = nb % 1048576 := ⟨_, rfl⟩
  rw [← hna] at bna hNa
  rw [← hnb] at bnb hNb
  have lqa : qa < 65536 := by rw [hqa]; omega
  have lra : ra < 256 := by rw [hra]; exact Nat.mod_lt _ (by omega)
  have lrb : rb < 1048576 := by rw [hrb]; exact Nat.mod_lt _ (by omega)
  have ta : (na : Int) / 16 = (qa : Int) := by rw [hqa]; rfl
  have ta' : (na : Int).tdiv 16 = (qa : Int) := by rw [hqa]; rfl
  have tb : (qa : Int) % 256 = (ra : Int) := by rw [hra]; rfl
  have tb' : (qa : Int).tmod 256 = (ra : Int) := by rw [hra]; rfl
  have tc : (nb : Int) % 1048576 = (rb : Int) := by rw [hrb]; rfl
  have tc' : (nb : Int).tmod 1048576 = (rb : Int) := by rw [hrb]; rfl
  have HRA := Lib.hid (show ra = num (s.take 2) / 16 % 256 by rw [hra, hqa, hna])
  have HRB := Lib.hid (show rb = num (s.take 4) % 1048576 by rw [hrb, hnb])
  clear hna hnb hqa hra hrb bna bnb
  have y1 : IntKind.u64.wrap (qa : Int) = (qa : Int) := u64_small qa (by omega)
  have y2 : IntKind.u64.wrap (ra : Int) = (ra : Int) := u64_small ra (by omega)
  have y3 : IntKind.i64.wrap (ra : Int) = (ra : Int) := i64_small ra (by omega)
  have y4 : IntKind.u64.wrap (rb : Int) = (rb : Int) := u64_small rb (by omega)
  have y5 : IntKind.i64.wrap (rb : Int) = (rb : Int) := i64_small rb (by omega)
  have y6 : IntKind.i64.wrap (40 + (wd s 4 : Int)) = 40 + (wd s 4 : Int) := i64_forty _ bn
  have y7 : (0 : Int) ≤ 40 + (wd s 4 : Int) := by omega
  have y8 : (40 : Int) ≤ 40 + (wd s 4 : Int) := by omega
  have y9 : 40 + (wd s 4 : Int) ≤ (s.length : Int) := by omega
  have ya : (40 + (wd s 4 : Int)).toNat = 40 + wd s 4 := by omega
  have hexb : (Str s).extract 40 (40 + wd s 4) = Str (bd6 s) := by rw [Str_extract, show 40 + wd s 4 - 40 = wd s 4 by omega]; rfl
  have l8 : ((s.drop 8).take 16).length = 16 := by simp; omega
  have l24 : ((s.drop 24).take 16).length = 16 := by simp; omega
  have hA1 : Hid (∀ W, Calls Try.prog 27 #[.string ((Str s).extract 8 24)] W fun e w' => e = .returned (.tuple #[.agg (addrC true ((s.drop 8).take 16)).toArray, .bool true]) ∧ Below W.heap.size W w') := Lib.hid fun W => by
    have := rread_good true ((s.drop 8).take 16) (by omega) (by rw [l8]; rfl) (by rw [l8]; rfl) W
    rw [readV16 _ l8] at this
    rw [Str_extract]; exact this
  have hA2 : Hid (∀ W, Calls Try.prog 27 #[.string ((Str s).extract 24 40)] W fun e w' => e = .returned (.tuple #[.agg (addrC true ((s.drop 24).take 16)).toArray, .bool true]) ∧ Below W.heap.size W w') := Lib.hid fun W => by
    have := rread_good true ((s.drop 24).take 16) (by omega) (by rw [l24]; rfl) (by rw [l24]; rfl) W
    rw [readV16 _ l24] at this
    rw [Str_extract]; exact this
  have hok12 := fok_addr true _ l8
  have hok16 := fok_addr true _ l24
  have hbp := bld_part6 ra rb (by8 s 6) (by8 s 7) (bd6 s)
  obtain ⟨E0, hE0⟩ : ∃ E0 : Ip, E0 = ⟨ra, rb, by8 s 6, by8 s 7, false, [0, 0, 0, 0, 0, 0, 0, 0, 0, 0, 0, 0, 0, 0, 0, 0], false, [0, 0, 0, 0, 0, 0, 0, 0, 0, 0, 0, 0, 0, 0, 0, 0], false, bd6 s⟩ := ⟨_, rfl⟩
  obtain ⟨E1, hE1⟩ : ∃ E1 : Ip, E1 = ⟨ra, rb, by8 s 6, by8 s 7, true, (s.drop 8).take 16, true, (s.drop 24).take 16, false, bd6 s⟩ := ⟨_, rfl⟩
  rw [← hE0] at hbp
  have ok0 : E0.ok := by rw [hE0]; exact ⟨rfl, rfl⟩
  have ok1 : E1.ok := by rw [hE1]; exact ⟨l8, l24⟩
  have HEE := Lib.hid (show (⟨E0.tos, E0.id, E0.ttl, E0.pro, true, (s.drop 8).take 16, true, (s.drop 24).take 16, E0.al, E0.bd⟩ : Ip) = E1 by rw [hE0, hE1])
  have HT := Lib.hid (show E1.ttl = (by8 s 6 : Int) by rw [hE1])
  have HBD := Lib.hid (show E1.bd = bd6 s by rw [hE1])
  have HL8 := Lib.hid l8
  have HL24 := Lib.hid l24
  have hfok0 := fok_ip ok0
  have hfok1 := fok_ip ok1
  have HO0 := Lib.hid ok0
  have HO1 := Lib.hid ok1
  have hfm1 : ∀ W : World, free? (W.alloc (.cells #[.int .i64 0, .int .i64 0, .int .i64 0, .int .i64 0, .bool false, .int .u8 0, .int .u8 0, .int .u8 0, .int .u8 0, .int .u8 0, .int .u8 0, .int .u8 0, .int .u8 0, .int .u8 0, .int .u8 0, .int .u8 0, .int .u8 0, .int .u8 0, .int .u8 0, .int .u8 0, .int .u8 0, .bool false, .int .u8 0, .int .u8 0, .int .u8 0, .int .u8 0, .int .u8 0, .int .u8 0, .int .u8 0, .int .u8 0, .int .u8 0, .int .u8 0, .int .u8 0, .int .u8 0, .int .u8 0, .int .u8 0, .int .u8 0, .int .u8 0, .bool false, .string ⟨#[]⟩] 26)) W.heap.size 0 40 = true := fun W => free_made W _ _ 40 (by simp)
  have hfm2 : ∀ W : World, free? (W.alloc (.cells #[.int .i64 0, .int .i64 0, .int .i64 0, .int .i64 0, .bool false, .int .u8 0, .int .u8 0, .int .u8 0, .int .u8 0, .int .u8 0, .int .u8 0, .int .u8 0, .int .u8 0, .int .u8 0, .int .u8 0, .int .u8 0, .int .u8 0, .int .u8 0, .int .u8 0, .int .u8 0, .int .u8 0, .bool false, .int .u8 0, .int .u8 0, .int .u8 0, .int .u8 0, .int .u8 0, .int .u8 0, .int .u8 0, .int .u8 0, .int .u8 0, .int .u8 0, .int .u8 0, .int .u8 0, .int .u8 0, .int .u8 0, .int .u8 0, .int .u8 0, .bool false, .string ⟨#[]⟩] 26)).drew W.heap.size 0 40 = true := fun W => free_made W _ _ 40 (by simp)
  have hfm3 : ∀ W : World, free? (W.drew.alloc (.cells #[.int .i64 0, .int .i64 0, .int .i64 0, .int .i64 0, .bool false, .int .u8 0, .int .u8 0, .int .u8 0, .int .u8 0, .int .u8 0, .int .u8 0, .int .u8 0, .int .u8 0, .int .u8 0, .int .u8 0, .int .u8 0, .int .u8 0, .int .u8 0, .int .u8 0, .int .u8 0, .int .u8 0, .bool false, .int .u8 0, .int .u8 0, .int .u8 0, .int .u8 0, .int .u8 0, .int .u8 0, .int .u8 0, .int .u8 0, .int .u8 0, .int .u8 0, .int .u8 0, .int .u8 0, .int .u8 0, .int .u8 0, .int .u8 0, .int .u8 0, .bool false, .string ⟨#[]⟩] 26)) W.heap.size 0 40 = true := fun W => free_made W.drew _ _ 40 (by simp)
  have hfm5 : ∀ (W : World) (d : Nat), free? ((W.alloc (.cells #[.int .i64 0, .int .i64 0, .int .i64 0, .int .i64 0, .bool false, .int .u8 0, .int .u8 0, .int .u8 0, .int .u8 0, .int .u8 0, .int .u8 0, .int .u8 0, .int .u8 0, .int .u8 0, .int .u8 0, .int .u8 0, .int .u8 0, .int .u8 0, .int .u8 0, .int .u8 0, .int .u8 0, .bool false, .int .u8 0, .int .u8 0, .int .u8 0, .int .u8 0, .int .u8 0, .int .u8 0, .int .u8 0, .int .u8 0, .int .u8 0, .int .u8 0, .int .u8 0, .int .u8 0, .int .u8 0, .int .u8 0, .int .u8 0, .int .u8 0, .bool false, .string ⟨#[]⟩] 26)).drewN d) W.heap.size 0 40 = true := fun W d => free_drewN (hfm1 W) d
  have hiq : iqOf s = E1 := (iqOf_no s h4 ra rb HRA.out HRB.out).trans hE1.symm
  have HR := Lib.hid (show readV6 s = (E1, 0) from HR.out.trans (congrArg (fun q => (q, (0 : Int))) hiq))
  clear hiq
  generalize (s.drop 8).take 16 = A1 at *
  generalize (s.drop 24).take 16 = A2 at *
  generalize wd s 4 = n at *
  generalize by8 s 6 = b6 at *
  generalize by8 s 7 = b7 at *
  generalize bd6 s = BD at *
  clear hs h1 h2 h3 bn u6 u7 hE0 ok0 ok1 l8 l24 hE1 hE
  clear h4
  have H0 := Lib.hid (QR.start w)
  have hbz := bld_zeroQ
  have hfok := fok_ip zeroI_ok
  have hf0 := free_made (w.alloc (.cells #[.int .i64 0, .int .i64 0, .int .i64 0, .int .i64 0, .bool false, .int .u8 0, .int .u8 0, .int .u8 0, .int .u8 0, .int .u8 0, .int .u8 0, .int .u8 0, .int .u8 0, .int .u8 0, .int .u8 0, .int .u8 0, .int .u8 0, .int .u8 0, .int .u8 0, .int .u8 0, .int .u8 0, .bool false, .int .u8 0, .int .u8 0, .int .u8 0, .int .u8 0, .int .u8 0, .int .u8 0, .int .u8 0, .int .u8 0, .int .u8 0, .int .u8 0, .int .u8 0, .int .u8 0, .int .u8 0, .int .u8 0, .int .u8 0, .int .u8 0, .bool false, .string ⟨#[]⟩] 26)) #[.int .i64 0, .int .i64 0, .int .i64 0, .int .i64 0, .bool false, .int .u8 0, .int .u8 0, .int .u8 0, .int .u8 0, .int .u8 0, .int .u8 0, .int .u8 0, .int .u8 0, .int .u8 0, .int .u8 0, .int .u8 0, .int .u8 0, .int .u8 0, .int .u8 0, .int .u8 0, .int .u8 0, .bool false, .int .u8 0, .int .u8 0, .int .u8 0, .int .u8 0, .int .u8 0, .int .u8 0, .int .u8 0, .int .u8 0, .int .u8 0, .int .u8 0, .int .u8 0, .int .u8 0, .int .u8 0, .int .u8 0, .int .u8 0, .int .u8 0, .bool false, .string ⟨#[]⟩] 26 40 (by simp)
  rw [show (w.alloc (.cells #[.int .i64 0, .int .i64 0, .int .i64 0, .int .i64 0, .bool false, .int .u8 0, .int .u8 0, .int .u8 0, .int .u8 0, .int .u8 0, .int .u8 0, .int .u8 0, .int .u8 0, .int .u8 0, .int .u8 0, .int .u8 0, .int .u8 0, .int .u8 0, .int .u8 0, .int .u8 0, .int .u8 0, .bool false, .int .u8 0, .int .u8 0, .int .u8 0, .int .u8 0, .int .u8 0, .int .u8 0, .int .u8 0, .int .u8 0, .int .u8 0, .int .u8 0, .int .u8 0, .int .u8 0, .int .u8 0, .int .u8 0, .int .u8 0, .int .u8 0, .bool false, .string ⟨#[]⟩] 26)).heap.size = w.heap.size + 1 by simp] at hf0
  rw [zeroI_cells] at H0
  go_enter Try.func15, Try.ntmps15
  go_upto_region 2 with (fail)
  generalize aggW ((w.alloc (.cells #[.int .i64 0, .int .i64 0, .int .i64 0, .int .i64 0, .bool false, .int .u8 0, .int .u8 0, .int .u8 0, .int .u8 0, .int .u8 0, .int .u8 0, .int .u8 0, .int .u8 0, .int .u8 0, .int .u8 0, .int .u8 0, .int .u8 0, .int .u8 0, .int .u8 0, .int .u8 0, .int .u8 0, .bool false, .int .u8 0, .int .u8 0, .int .u8 0, .int .u8 0, .int .u8 0, .int .u8 0, .int .u8 0, .int .u8 0, .int .u8 0, .int .u8 0, .int .u8 0, .int .u8 0, .int .u8 0, .int .u8 0, .int .u8 0, .int .u8 0, .bool false, .string ⟨#[]⟩] 26)).alloc (.cells #[.int .i64 0, .int .i64 0, .int .i64 0, .int .i64 0, .bool false, .int .u8 0, .int .u8 0, .int .u8 0, .int .u8 0, .int .u8 0, .int .u8 0, .int .u8 0, .int .u8 0, .int .u8 0, .int .u8 0, .int .u8 0, .int .u8 0, .int .u8 0, .int .u8 0, .int .u8 0, .int .u8 0, .bool false, .int .u8 0, .int .u8 0, .int .u8 0, .int .u8 0, .int .u8 0, .int .u8 0, .int .u8 0, .int .u8 0, .int .u8 0, .int .u8 0, .int .u8 0, .int .u8 0, .int .u8 0, .int .u8 0, .int .u8 0, .int .u8 0, .bool false, .string ⟨#[]⟩] 26)) (w.heap.size + 1) _ = W at H0 ⊢
  clear hf0
  have hr := H0.out.row
  have hf := H0.out.free
  go_upto_region 9 with (go_at_call 26; (with_reducible refine (hN4.out _).mono ?_); rintro x w5 ⟨rfl, hw5⟩; subst hw5)
  clear hr hf
  go_cut [6] from 11 (fun q wr => ∃ m : Nat, q = .pointer (some ⟨m, 0, none⟩) ∧ QG w wr m E0)
  case first =>
    refine wp_region_held_drew (S := fun _ => True) (by kernel_rfl) (trivial) (fun hHeld => ?_)
    refine wpAnyH_take (i := 0) (oi := { dst := some 31, op := _, type := _, pos := _, after := _, guard := _ }) (v := ?v1) rfl (by kernel_rfl) (by kernel_rfl) (by kernel_rfl) (fun _ _ _ h => h) (Or.inl ⟨by rfl, ?y1⟩) (by assumption) ?r1
    case y1 => (intro w hSw; go_simp; try with_reducible rfl)
    try simp only [Act.put, List.setIfInBounds_toArray, List.set_cons_zero, List.set_cons_succ]
    refine wpAnyH_take (i := 1) (oi := { dst := some 32, op := _, type := _, pos := _, after := _, guard := _ }) (v := ?v2) rfl (by kernel_rfl) (by kernel_rfl) (by kernel_rfl) (fun _ _ _ h => h) (Or.inl ⟨by rfl, ?y2⟩) (by assumption) ?r2
    case y2 => (intro w hSw; go_simp; try with_reducible rfl)
    try simp only [Act.put, List.setIfInBounds_toArray, List.set_cons_zero, List.set_cons_succ]
    refine wpAnyH_take (i := 6) (oi := { dst := some 37, op := _, type := _, pos := _, after := _, guard := _ }) (v := ?v3) rfl (by kernel_rfl) (by kernel_rfl) (by kernel_rfl) (fun _ _ _ h => h) (Or.inl ⟨by rfl, ?y3⟩) (by assumption) ?r3
    case y3 => (intro w hSw; go_simp; try with_reducible rfl)
    try simp only [Act.put, List.setIfInBounds_toArray, List.set_cons_zero, List.set_cons_succ]
    refine wpAnyH_take (i := 7) (oi := { dst := some 38, op := _, type := _, pos := _, after := _, guard := _ }) (v := ?v4) rfl (by kernel_rfl) (by kernel_rfl) (by kernel_rfl) (fun _ _ _ h => h) (Or.inl ⟨by rfl, ?y4⟩) (by assumption) ?r4
    case y4 => (intro w hSw; go_simp; try with_reducible rfl)
    try simp only [Act.put, List.setIfInBounds_toArray, List.set_cons_zero, List.set_cons_succ]
    refine wpAnyH_take (i := 11) (oi := { dst := some 42, op := _, type := _, pos := _, after := _, guard := _ }) (v := ?v5) rfl (by kernel_rfl) (by kernel_rfl) (by kernel_rfl) (fun _ _ _ h => h) (Or.inl ⟨by rfl, ?y5⟩) (by assumption) ?r5
    case y5 => (intro w hSw; go_simp; try with_reducible rfl)
    try simp only [Act.put, List.setIfInBounds_toArray, List.set_cons_zero, List.set_cons_succ]
    refine wpAnyH_take (i := 12) (oi := { dst := some 43, op := _, type := _, pos := _, after := _, guard := _ }) (v := ?v6) rfl (by kernel_rfl) (by kernel_rfl) (by kernel_rfl) (fun _ _ _ h => h) (Or.inl ⟨by rfl, ?y6⟩) (by assumption) ?r6
    case y6 => (intro w hSw; go_simp; try with_reducible rfl)
    try simp only [Act.put, List.setIfInBounds_toArray, List.set_cons_zero, List.set_cons_succ]
    refine wpAnyH_take (i := 13) (oi := { dst := some 44, op := _, type := _, pos := _, after := _, guard := _ }) (v := ?v7) rfl (by kernel_rfl) (by kernel_rfl) (by kernel_rfl) (fun _ _ _ h => h) (Or.inl ⟨by rfl, ?y7⟩) (by assumption) ?r7
    case y7 => (intro w hSw; go_simp; try with_reducible rfl)
    try simp only [Act.put, List.setIfInBounds_toArray, List.set_cons_zero, List.set_cons_succ]
    refine wpAnyH_take (i := 14) (oi := { dst := some 45, op := _, type := _, pos := _, after := _, guard := _ }) (v := ?v8) rfl (by kernel_rfl) (by kernel_rfl) (by kernel_rfl) (fun _ _ _ h => h) (Or.inl ⟨by rfl, ?y8⟩) (by assumption) ?r8
    case y8 => (intro w hSw; go_simp; try with_reducible rfl)
    try simp only [Act.put, List.setIfInBounds_toArray, List.set_cons_zero, List.set_cons_succ]
    refine wpAnyH_take (i := 15) (oi := { dst := some 46, op := _, type := _, pos := _, after := _, guard := _ }) (v := ?v9) rfl (by kernel_rfl) (by kernel_rfl) (by kernel_rfl) (fun _ _ _ h => h) (Or.inl ⟨by rfl, ?y9⟩) (by assumption) ?r9
    case y9 => (intro w hSw; go_simp; try with_reducible rfl)
    try simp only [Act.put, List.setIfInBounds_toArray, List.set_cons_zero, List.set_cons_succ]
    refine wpAnyH_take (i := 16) (oi := { dst := some 47, op := _, type := _, pos := _, after := _, guard := _ }) (v := ?v10) rfl (by kernel_rfl) (by kernel_rfl) (by kernel_rfl) (fun _ _ _ h => h) (Or.inl ⟨by rfl, ?y10⟩) (by assumption) ?r10
    case y10 => (intro w hSw; go_simp; try with_reducible rfl)
    try simp only [Act.put, List.setIfInBounds_toArray, List.set_cons_zero, List.set_cons_succ]
    refine wpAnyH_take (i := 17) (oi := { dst := some 48, op := _, type := _, pos := _, after := _, guard := _ }) (v := ?v11) rfl (by kernel_rfl) (by kernel_rfl) (by kernel_rfl) (fun _ _ _ h => h) (Or.inl ⟨by rfl, ?y11⟩) (by assumption) ?r11
    case y11 => (intro w hSw; go_simp; try with_reducible rfl)
    try simp only [Act.put, List.setIfInBounds_toArray, List.set_cons_zero, List.set_cons_succ]
    refine wpAnyH_take (i := 18) (oi := { dst := some 49, op := _, type := _, pos := _, after := _, guard := _ }) (v := ?v12) rfl (by kernel_rfl) (by kernel_rfl) (by kernel_rfl) (fun _ _ _ h => h) (Or.inl ⟨by rfl, ?y12⟩) (by assumption) ?r12
    case y12 => (intro w hSw; go_simp; try with_reducible rfl)
    try simp only [Act.put, List.setIfInBounds_toArray, List.set_cons_zero, List.set_cons_succ]
    refine wpAnyH_take (i := 19) (oi := { dst := some 50, op := _, type := _, pos := _, after := _, guard := _ }) (v := ?v13) rfl (by kernel_rfl) (by kernel_rfl) (by kernel_rfl) (fun _ _ _ h => h) (Or.inl ⟨by rfl, ?y13⟩) (by assumption) ?r13
    case y13 => (intro w hSw; go_simp; try with_reducible rfl)
    try simp only [Act.put, List.setIfInBounds_toArray, List.set_cons_zero, List.set_cons_succ]
    refine wpAnyH_take (i := 20) (oi := { dst := some 51, op := _, type := _, pos := _, after := _, guard := _ }) (v := ?v14) rfl (by kernel_rfl) (by kernel_rfl) (by kernel_rfl) (fun _ _ _ h => h) (Or.inl ⟨by rfl, ?y14⟩) (by assumption) ?r14
    case y14 => (intro w hSw; go_simp; try with_reducible rfl)
    try simp only [Act.put, List.setIfInBounds_toArray, List.set_cons_zero, List.set_cons_succ]
    refine wpAnyH_ready (rs := [2, 22]) (by kernel_rfl) (by simp) (AllReadyH.cons (o := _) rfl (fun K hK => ?_) (AllReadyH.cons (o := _) rfl (fun K hK => ?_) AllReadyH.nil))
    · go_simp
      (go_at_call 26; (with_reducible refine (hNa.out _).mono ?_); rintro x w5 ⟨rfl, hw5⟩; subst hw5)
      try go_wp2_with fail
      refine hK.out _ _ (trivial) (fun hHeld => ?_)
      clear hK K
      try simp only [Act.put, List.setIfInBounds_toArray, List.set_cons_zero, List.set_cons_succ]
      refine wpAnyH_take (i := 3) (oi := { dst := some 34, op := _, type := _, pos := _, after := _, guard := _ }) (v := ?v15) rfl (by kernel_rfl) (by kernel_rfl) (by kernel_rfl) (fun _ _ _ h => h) (Or.inl ⟨by rfl, ?y15⟩) (by assumption) ?r15
      case y15 => (intro w hSw; go_simp; try with_reducible rfl)
      try simp only [Act.put, List.setIfInBounds_toArray, List.set_cons_zero, List.set_cons_succ]
      refine wpAnyH_take (i := 4) (oi := { dst := some 35, op := _, type := _, pos := _, after := _, guard := _ }) (v := ?v16) rfl (by kernel_rfl) (by kernel_rfl) (by kernel_rfl) (fun _ _ _ h => h) (Or.inl ⟨by rfl, ?y16⟩) (by assumption) ?r16
      case y16 => (intro w hSw; go_simp; try with_reducible rfl)
      try simp only [Act.put, List.setIfInBounds_toArray, List.set_cons_zero, List.set_cons_succ]
      refine wpAnyH_take (i := 5) (oi := { dst := some 36, op := _, type := _, pos := _, after := _, guard := _ }) (v := ?v17) rfl (by kernel_rfl) (by kernel_rfl) (by kernel_rfl) (fun _ _ _ h => h) (Or.inl ⟨by rfl, ?y17⟩) (by assumption) ?r17
      case y17 => (intro w hSw; go_simp; try with_reducible rfl)
      try simp only [Act.put, List.setIfInBounds_toArray, List.set_cons_zero, List.set_cons_succ]
      refine wpAnyH_ready (rs := [8, 22]) (by kernel_rfl) (by simp) (AllReadyH.cons (o := _) rfl (fun K hK => ?_) (AllReadyH.cons (o := _) rfl (fun K hK => ?_) AllReadyH.nil))
      · go_simp
        (go_at_call 26; (with_reducible refine (hNb.out _).mono ?_); rintro x w5 ⟨rfl, hw5⟩; subst hw5)
        try go_wp2_with fail
        refine hK.out _ _ (trivial) (fun hHeld => ?_)
        clear hK K
        try simp only [Act.put, List.setIfInBounds_toArray, List.set_cons_zero, List.set_cons_succ]
        refine wpAnyH_take (i := 9) (oi := { dst := some 40, op := _, type := _, pos := _, after := _, guard := _ }) (v := ?v18) rfl (by kernel_rfl) (by kernel_rfl) (by kernel_rfl) (fun _ _ _ h => h) (Or.inl ⟨by rfl, ?y18⟩) (by assumption) ?r18
        case y18 => (intro w hSw; go_simp; try with_reducible rfl)
        try simp only [Act.put, List.setIfInBounds_toArray, List.set_cons_zero, List.set_cons_succ]
        refine wpAnyH_take (i := 10) (oi := { dst := some 41, op := _, type := _, pos := _, after := _, guard := _ }) (v := ?v19) rfl (by kernel_rfl) (by kernel_rfl) (by kernel_rfl) (fun _ _ _ h => h) (Or.inl ⟨by rfl, ?y19⟩) (by assumption) ?r19
        case y19 => (intro w hSw; go_simp; try with_reducible rfl)
        try simp only [Act.put, List.setIfInBounds_toArray, List.set_cons_zero, List.set_cons_succ]
        refine wpAnyH_take (i := 21) (oi := { dst := some 52, op := _, type := _, pos := _, after := _, guard := _ }) (v := ?v20) rfl (by kernel_rfl) (by kernel_rfl) (by kernel_rfl) (fun _ _ _ h => h) (Or.inl ⟨by rfl, ?y20⟩) (by assumption) ?r20
        case y20 => (intro w hSw; go_simp; try with_reducible rfl)
        try simp only [Act.put, List.setIfInBounds_toArray, List.set_cons_zero, List.set_cons_succ]
        refine wpAnyH_ready (rs := [22]) (by kernel_rfl) (by simp) (AllReadyH.cons (o := _) rfl (fun K hK => ?_) AllReadyH.nil)
        go_simp
        refine hK.out _ _ (trivial) (fun hHeld => ?_)
        clear hK K
        try simp only [Act.put, List.setIfInBounds_toArray, List.set_cons_zero, List.set_cons_succ]
        refine wpAnyH_ready (rs := [23]) (by kernel_rfl) (by simp) (AllReadyH.cons (o := _) rfl (fun K hK => ?_) AllReadyH.nil)
        go_simp
        refine hK.out _ _ (trivial) (fun hHeld => ?_)
        clear hK K
        try simp only [Act.put, List.setIfInBounds_toArray, List.set_cons_zero, List.set_cons_succ]
        refine wpAnyH_done (by kernel_rfl) ?_ _
        go_wp2
        go_meet
        case rel => exact ⟨_, rfl, by first | exact QG.made H0.out E0 HO0.out | exact QG.made (H0.out.drewN 1) E0 HO0.out | exact QG.made (H0.out.drewN 2) E0 HO0.out | exact QG.made (H0.out.drewN 3) E0 HO0.out⟩
      · go_simp
        refine hK.out _ _ (trivial) (fun hHeld => ?_)
        clear hK K
        try simp only [Act.put, List.setIfInBounds_toArray, List.set_cons_zero, List.set_cons_succ]
        refine wpAnyH_ready (rs := [8]) (by kernel_rfl) (by simp) (AllReadyH.cons (o := _) rfl (fun K hK => ?_) AllReadyH.nil)
        go_simp
        (go_at_call 26; (with_reducible refine (hNb.out _).mono ?_); rintro x w5 ⟨rfl, hw5⟩; subst hw5)
        try go_wp2_with fail
        refine hK.out _ _ (trivial) (fun hHeld => ?_)
        clear hK K
        try simp only [Act.put, List.setIfInBounds_toArray, List.set_cons_zero, List.set_cons_succ]
        refine wpAnyH_take (i := 9) (oi := { dst := some 40, op := _, type := _, pos := _, after := _, guard := _ }) (v := ?v21) rfl (by kernel_rfl) (by kernel_rfl) (by kernel_rfl) (fun _ _ _ h => h) (Or.inl ⟨by rfl, ?y21⟩) (by assumption) ?r21
        case y21 => (intro w hSw; go_simp; try with_reducible rfl)
        try simp only [Act.put, List.setIfInBounds_toArray, List.set_cons_zero, List.set_cons_succ]
        refine wpAnyH_take (i := 10) (oi := { dst := some 41, op := _, type := _, pos := _, after := _, guard := _ }) (v := ?v22) rfl (by kernel_rfl) (by kernel_rfl) (by kernel_rfl) (fun _ _ _ h => h) (Or.inl ⟨by rfl, ?y22⟩) (by assumption) ?r22
        case y22 => (intro w hSw; go_simp; try with_reducible rfl)
        try simp only [Act.put, List.setIfInBounds_toArray, List.set_cons_zero, List.set_cons_succ]
        refine wpAnyH_take (i := 21) (oi := { dst := some 52, op := _, type := _, pos := _, after := _, guard := _ }) (v := ?v23) rfl (by kernel_rfl) (by kernel_rfl) (by kernel_rfl) (fun _ _ _ h => h) (Or.inl ⟨by rfl, ?y23⟩) (by assumption) ?r23
        case y23 => (intro w hSw; go_simp; try with_reducible rfl)
        try simp only [Act.put, List.setIfInBounds_toArray, List.set_cons_zero, List.set_cons_succ]
        refine wpAnyH_ready (rs := [23]) (by kernel_rfl) (by simp) (AllReadyH.cons (o := _) rfl (fun K hK => ?_) AllReadyH.nil)
        go_simp
        refine hK.out _ _ (trivial) (fun hHeld => ?_)
        clear hK K
        try simp only [Act.put, List.setIfInBounds_toArray, List.set_cons_zero, List.set_cons_succ]
        refine wpAnyH_done (by kernel_rfl) ?_ _
        go_wp2
        go_meet
        case rel => exact ⟨_, rfl, by first | exact QG.made H0.out E0 HO0.out | exact QG.made (H0.out.drewN 1) E0 HO0.out | exact QG.made (H0.out.drewN 2) E0 HO0.out | exact QG.made (H0.out.drewN 3) E0 HO0.out⟩
    · go_simp
      refine hK.out _ _ (trivial) (fun hHeld => ?_)
      clear hK K
      try simp only [Act.put, List.setIfInBounds_toArray, List.set_cons_zero, List.set_cons_succ]
      refine wpAnyH_ready (rs := [2]) (by kernel_rfl) (by simp) (AllReadyH.cons (o := _) rfl (fun K hK => ?_) AllReadyH.nil)
      go_simp
      (go_at_call 26; (with_reducible refine (hNa.out _).mono ?_); rintro x w5 ⟨rfl, hw5⟩; subst hw5)
      try go_wp2_with fail
      refine hK.out _ _ (trivial) (fun hHeld => ?_)
      clear hK K
      try simp only [Act.put, List.setIfInBounds_toArray, List.set_cons_zero, List.set_cons_succ]
      refine wpAnyH_take (i := 3) (oi := { dst := some 34, op := _, type := _, pos := _, after := _, guard := _ }) (v := ?v24) rfl (by kernel_rfl) (by kernel_rfl) (by kernel_rfl) (fun _ _ _ h => h) (Or.inl ⟨by rfl, ?y24⟩) (by assumption) ?r24
      case y24 => (intro w hSw; go_simp; try with_reducible rfl)
      try simp only [Act.put, List.setIfInBounds_toArray, List.set_cons_zero, List.set_cons_succ]
      refine wpAnyH_take (i := 4) (oi := { dst := some 35, op := _, type := _, pos := _, after := _, guard := _ }) (v := ?v25) rfl (by kernel_rfl) (by kernel_rfl) (by kernel_rfl) (fun _ _ _ h => h) (Or.inl ⟨by rfl, ?y25⟩) (by assumption) ?r25
      case y25 => (intro w hSw; go_simp; try with_reducible rfl)
      try simp only [Act.put, List.setIfInBounds_toArray, List.set_cons_zero, List.set_cons_succ]
      refine wpAnyH_take (i := 5) (oi := { dst := some 36, op := _, type := _, pos := _, after := _, guard := _ }) (v := ?v26) rfl (by kernel_rfl) (by kernel_rfl) (by kernel_rfl) (fun _ _ _ h => h) (Or.inl ⟨by rfl, ?y26⟩) (by assumption) ?r26
      case y26 => (intro w hSw; go_simp; try with_reducible rfl)
      try simp only [Act.put, List.setIfInBounds_toArray, List.set_cons_zero, List.set_cons_succ]
      refine wpAnyH_ready (rs := [8]) (by kernel_rfl) (by simp) (AllReadyH.cons (o := _) rfl (fun K hK => ?_) AllReadyH.nil)
      go_simp
      (go_at_call 26; (with_reducible refine (hNb.out _).mono ?_); rintro x w5 ⟨rfl, hw5⟩; subst hw5)
      try go_wp2_with fail
      refine hK.out _ _ (trivial) (fun hHeld => ?_)
      clear hK K
      try simp only [Act.put, List.setIfInBounds_toArray, List.set_cons_zero, List.set_cons_succ]
      refine wpAnyH_take (i := 9) (oi := { dst := some 40, op := _, type := _, pos := _, after := _, guard := _ }) (v := ?v27) rfl (by kernel_rfl) (by kernel_rfl) (by kernel_rfl) (fun _ _ _ h => h) (Or.inl ⟨by rfl, ?y27⟩) (by assumption) ?r27
      case y27 => (intro w hSw; go_simp; try with_reducible rfl)
      try simp only [Act.put, List.setIfInBounds_toArray, List.set_cons_zero, List.set_cons_succ]
      refine wpAnyH_take (i := 10) (oi := { dst := some 41, op := _, type := _, pos := _, after := _, guard := _ }) (v := ?v28) rfl (by kernel_rfl) (by kernel_rfl) (by kernel_rfl) (fun _ _ _ h => h) (Or.inl ⟨by rfl, ?y28⟩) (by assumption) ?r28
      case y28 => (intro w hSw; go_simp; try with_reducible rfl)
      try simp only [Act.put, List.setIfInBounds_toArray, List.set_cons_zero, List.set_cons_succ]
      refine wpAnyH_take (i := 21) (oi := { dst := some 52, op := _, type := _, pos := _, after := _, guard := _ }) (v := ?v29) rfl (by kernel_rfl) (by kernel_rfl) (by kernel_rfl) (fun _ _ _ h => h) (Or.inl ⟨by rfl, ?y29⟩) (by assumption) ?r29
      case y29 => (intro w hSw; go_simp; try with_reducible rfl)
      try simp only [Act.put, List.setIfInBounds_toArray, List.set_cons_zero, List.set_cons_succ]
      refine wpAnyH_ready (rs := [23]) (by kernel_rfl) (by simp) (AllReadyH.cons (o := _) rfl (fun K hK => ?_) AllReadyH.nil)
      go_simp
      refine hK.out _ _ (trivial) (fun hHeld => ?_)
      clear hK K
      try simp only [Act.put, List.setIfInBounds_toArray, List.set_cons_zero, List.set_cons_succ]
      refine wpAnyH_done (by kernel_rfl) ?_ _
      go_wp2
      go_meet
      case rel => exact ⟨_, rfl, by first | exact QG.made H0.out E0 HO0.out | exact QG.made (H0.out.drewN 1) E0 HO0.out | exact QG.made (H0.out.drewN 2) E0 HO0.out | exact QG.made (H0.out.drewN 3) E0 HO0.out⟩
  case rest =>
    obtain ⟨m, rfl, hg⟩ := hcut
    have H4 := Lib.hid hg
    clear hg ta ta' tb tb' tc tc' y1 y2 y3 y4 y5 y6 y7 y8 y9 ya hfm1 hfm2 hfm3 hfm5 hbp hwl hwn hdv hdt hwv
    go_upto_region 11 with (go_at_call 27; (with_reducible refine (hA1.out _).mono ?_); rintro x w6 ⟨rfl, hb6⟩; have H5 := Lib.hid (H4.out.below hb6); have f4 := H5.out.free4; clear hb6)
    go_upto_region 12 with (go_at_call 27; (with_reducible refine (hA2.out _).mono ?_); rintro x w7 ⟨rfl, hb7⟩; have H6 := Lib.hid ((H5.out.fr true A1 HL8.out).below hb7); have f21 := H6.out.free21; have h7 := H6.out.to true A2 HL24.out; simp only at h7; rw [HEE.out] at h7; have H7 := Lib.hid h7; clear hb7 h7)
    generalize aggO w7 m 21 _ = W8 at H7 ⊢
    clear f4 f21 H5 H6
    have c2 := H7.out.2.1.ttl
    rw [HT.out] at c2
    have c39 := H7.out.2.1.bd HO1.out
    rw [HBD.out] at c39
    have hr := H7.out.1.row
    have hrm := H7.out.2.1.row HO1.out
    have hf := H7.out.1.free
    go_upto_region 25 with (fail)
    repeat (first | go_values | go_skip | go_guarded | go_step | go_upon | go_in)
    obtain ⟨q1, q2⟩ := H7.out.1.done E1 HO1.out
    exact bodyPost_ret (results_cell2 Try.results15 rfl (ld_some q1 (ldr_iq _ _ _))) rfl ⟨by rw [HR.out]; rfl, q2⟩
end Go.Proofs.Ytkmnnkklbgnfpaa
