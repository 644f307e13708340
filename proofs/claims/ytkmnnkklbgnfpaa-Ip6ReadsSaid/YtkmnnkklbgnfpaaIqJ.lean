/-
  The contracts of ip6.readOptions, of any packet, and of ip6.readHeader, by parts.
-/
import Derived.Test.YtkmnnkklbgnfpaaIqI
namespace Go.Proofs.Ytkmnnkklbgnfpaa
open Go.RowKit
set_option linter.unusedVariables false
attribute [local go_sem ↓] bld_iq ld_iq st_iq ld_addr st_addr
attribute [local go_sem] ldr_iq str_iq ldr_addr str_addr

def opE (e : Ip) : Bool × Int := optQ false ((e.bd.take (8 * by8 e.bd 1 + 8)).drop 2)
/-- What the options ahead of a packet's body come to. -/
def opV (e : Ip) : Ip × Int :=
  if e.bd.length < 8 ∨ e.bd.length < 8 * by8 e.bd 1 + 8 then (zeroI, 2)
  else if (opE e).2 ≠ 0 then (zeroI, (opE e).2)
  else if by8 e.bd 0 = 0 then (zeroI, 2)
  else (⟨e.tos, e.id, by8 e.bd 0, e.pro, e.f6, e.fr, e.t6, e.to, (opE e).1, e.bd.drop (8 * by8 e.bd 1 + 8)⟩, 0)
theorem opt_nil (w : World) : Calls Try.prog 16 #[.string (Str [])] w fun x w' => x = .returned (.tuple #[.bool false, .int .i64 0]) ∧ Below w.heap.size w w' := opt6_any [] (by simp) w
theorem ropts6_any (e : Ip) (ho : e.ok) (hl : e.bd.length ≤ 100000) (w : World) :
    Calls Try.prog 23 #[.agg (ipC e).toArray] w fun x w' => x = .returned (.tuple #[.agg (ipC (opV e).1).toArray, .int .i64 (opV e).2]) ∧ Below w.heap.size w w' := by
  obtain ⟨B, hB⟩ : ∃ B, B = e.bd := ⟨_, rfl⟩
  rw [← hB] at hl
  have c0 := by8_lt B 0
  have c1 := by8_lt B 1
  by_cases h0 : B.length = 0
  · refine ropts_core w e ho B B B [] 0 0 0 0 0 true true true false 0 ?_ ?_ ?_ (Lib.hid fun W => opt_nil W) (by omega) (by omega) _ rfl _ ?_
    · rw [← hB]; exact Lib.hid fun W h => one_short _ B 0 h0 (by omega) W h
    · exact Lib.hid fun W h => by
        have := numq_any _ B 0 true 1 (by omega) (by omega) (by omega) W h
        obtain ⟨e1, e2, e3, e4⟩ := rd_dead (l := B) (n := ((1 : Nat) : Int)) (k := 0)
        rw [e1, e2, e3, e4] at this
        exact this
    · exact Lib.hid fun W h => take_dead _ B 0 _ (by omega) (by omega) W h
    · unfold opV coreO; rw [← hB, if_pos (by omega)]; rfl
  by_cases h1 : B.length = 1
  · refine ropts_core w e ho (B.drop 1) (B.drop 1) (B.drop 1) [] (0 + 1) (0 + 1) (0 + 1) (by8 B 0) 0 false true true false 0 ?_ ?_ ?_ (Lib.hid fun W => opt_nil W) (by omega) (by omega) _ rfl _ ?_
    · rw [← hB]; exact Lib.hid fun W h => one_good _ B 0 (by omega) (by omega) (by omega) W h
    · exact Lib.hid fun W h => one_short _ (B.drop 1) (0 + 1) (by simp; omega) (by omega) W h
    · exact Lib.hid fun W h => take_dead _ (B.drop 1) (0 + 1) _ (by simp; omega) (by omega) W h
    · unfold opV coreO; rw [← hB, if_pos (by omega)]; rfl
  have hq1 : by8 (B.drop 1) 0 = by8 B 1 := by8_drop B 1 0
  have hn : (8 * ((by8 B 1 : Int) + 1) - 2) = ((8 * by8 B 1 + 6 : Nat) : Int) := by omega
  have HA : Hid (∀ W, RdAt W (w.heap.size + 2) B 0 false → Calls Try.prog 30 #[.pointer (some ⟨w.heap.size + 2, 0, none⟩), .int .i64 1] W fun x w' => x = .returned (.int .u64 (by8 B 0)) ∧ RdAt w' (w.heap.size + 2) (B.drop 1) (0 + 1) false ∧ W.grownBy w' (some (w.heap.size + 2))) := Lib.hid fun W h => one_good _ B 0 (by omega) (by omega) (by omega) W h
  have HB : Hid (∀ W, RdAt W (w.heap.size + 2) (B.drop 1) (0 + 1) false → Calls Try.prog 30 #[.pointer (some ⟨w.heap.size + 2, 0, none⟩), .int .i64 1] W fun x w' => x = .returned (.int .u64 (by8 B 1)) ∧ RdAt w' (w.heap.size + 2) (B.drop (1 + 1)) (0 + 1 + 1) false ∧ W.grownBy w' (some (w.heap.size + 2))) := Lib.hid fun W h => by
    have := one_good _ (B.drop 1) (0 + 1) (by simp; omega) (by simp; omega) (by omega) W h
    rw [hq1, List.drop_drop] at this
    exact this
  by_cases h2 : B.length < 8 * by8 B 1 + 8
  · refine ropts_core w e ho (B.drop 1) (B.drop (1 + 1)) (B.drop (1 + 1)) [] (0 + 1) (0 + 1 + 1) (0 + 1 + 1) (by8 B 0) (by8 B 1) false false true false 0 (by rw [← hB]; exact HA) HB ?_ (Lib.hid fun W => opt_nil W) c0 c1 _ rfl _ ?_
    · rw [hn]; exact Lib.hid fun W h => take_short _ (B.drop (1 + 1)) (0 + 1 + 1) (8 * by8 B 1 + 6) (by simp; omega) (by simp; omega) (by omega) W h
    · unfold opV coreO; rw [← hB, if_pos (Or.inr h2)]; rfl
  · refine ropts_core w e ho (B.drop 1) (B.drop (1 + 1)) (B.drop (1 + 1 + (8 * by8 B 1 + 6))) ((B.drop (1 + 1)).take (8 * by8 B 1 + 6)) (0 + 1) (0 + 1 + 1) (0 + 1 + 1 + (8 * by8 B 1 + 6)) (by8 B 0) (by8 B 1) false false false (opE e).1 (opE e).2 (by rw [← hB]; exact HA) HB ?_ ?_ c0 c1 _ rfl _ ?_
    · rw [hn]; exact Lib.hid fun W h => by
        have := take_good _ (B.drop (1 + 1)) (0 + 1 + 1) (8 * by8 B 1 + 6) (by simp; omega) (by simp; omega) (by omega) W h
        rw [List.drop_drop] at this
        exact this
    · exact Lib.hid fun W => by
        have := opt6_any ((B.drop (1 + 1)).take (8 * by8 B 1 + 6)) (by simp; omega) W
        unfold opE
        rw [← hB, List.drop_take, show 8 * by8 B 1 + 8 - 2 = 8 * by8 B 1 + 6 by omega]
        exact this
    · unfold opV coreO
      rw [← hB, if_neg (show ¬ (B.length < 8 ∨ B.length < 8 * by8 B 1 + 8) by omega), show 1 + 1 + (8 * by8 B 1 + 6) = 8 * by8 B 1 + 8 by omega]
      rfl

/-- The result's block, the reader. -/
def RZ (w W : World) (l : List UInt8) (k : Nat) (bad : Bool) : Prop :=
  RdAt W (w.heap.size + 1) l k bad ∧ ObjAt W w.heap.size (ipC zeroI).toArray 26 ∧ Below w.heap.size w W
theorem RZ.start (w : World) (s : List UInt8) : RZ w ((w.alloc (.cells #[.int .i64 0, .int .i64 0, .int .i64 0, .int .i64 0, .bool false, .int .u8 0, .int .u8 0, .int .u8 0, .int .u8 0, .int .u8 0, .int .u8 0, .int .u8 0, .int .u8 0, .int .u8 0, .int .u8 0, .int .u8 0, .int .u8 0, .int .u8 0, .int .u8 0, .int .u8 0, .int .u8 0, .bool false, .int .u8 0, .int .u8 0, .int .u8 0, .int .u8 0, .int .u8 0, .int .u8 0, .int .u8 0, .int .u8 0, .int .u8 0, .int .u8 0, .int .u8 0, .int .u8 0, .int .u8 0, .int .u8 0, .int .u8 0, .int .u8 0, .bool false, .string ⟨#[]⟩] 26)).alloc (.cells #[.string (Str s), .int .i64 0, .bool false] 62)) s 0 false := by
  refine ⟨?_, (ObjAt.made w _ _).alloc _, ((Below.refl _ _).alloc (Nat.le_refl _) _).alloc (by simp) _⟩
  have := ObjAt.made (w.alloc (.cells #[.int .i64 0, .int .i64 0, .int .i64 0, .int .i64 0, .bool false, .int .u8 0, .int .u8 0, .int .u8 0, .int .u8 0, .int .u8 0, .int .u8 0, .int .u8 0, .int .u8 0, .int .u8 0, .int .u8 0, .int .u8 0, .int .u8 0, .int .u8 0, .int .u8 0, .int .u8 0, .int .u8 0, .bool false, .int .u8 0, .int .u8 0, .int .u8 0, .int .u8 0, .int .u8 0, .int .u8 0, .int .u8 0, .int .u8 0, .int .u8 0, .int .u8 0, .int .u8 0, .int .u8 0, .int .u8 0, .int .u8 0, .int .u8 0, .int .u8 0, .bool false, .string ⟨#[]⟩] 26)) #[.string (Str s), .int .i64 0, .bool false] 62
  rw [show (w.alloc (.cells #[.int .i64 0, .int .i64 0, .int .i64 0, .int .i64 0, .bool false, .int .u8 0, .int .u8 0, .int .u8 0, .int .u8 0, .int .u8 0, .int .u8 0, .int .u8 0, .int .u8 0, .int .u8 0, .int .u8 0, .int .u8 0, .int .u8 0, .int .u8 0, .int .u8 0, .int .u8 0, .int .u8 0, .bool false, .int .u8 0, .int .u8 0, .int .u8 0, .int .u8 0, .int .u8 0, .int .u8 0, .int .u8 0, .int .u8 0, .int .u8 0, .int .u8 0, .int .u8 0, .int .u8 0, .int .u8 0, .int .u8 0, .int .u8 0, .int .u8 0, .bool false, .string ⟨#[]⟩] 26)).heap.size = w.heap.size + 1 by simp] at this
  exact this
theorem RZ.grown {w W W' : World} {l l' : List UInt8} {k k' : Nat} {bad bad' : Bool} (h : RZ w W l k bad) (hr : RdAt W' (w.heap.size + 1) l' k' bad') (hg : W.grownBy W' (some (w.heap.size + 1))) : RZ w W' l' k' bad' :=
  ⟨hr, ObjAt.grown h.2.1 hg (by simp), h.2.2.grown hg (by have := ObjAt.lt h.2.1; omega) (fun n hn => by simp at hn; omega)⟩
theorem RZ.drewN {w W : World} {l : List UInt8} {k : Nat} {bad : Bool} (h : RZ w W l k bad) (d : Nat) : RZ w (W.drewN d) l k bad := ⟨h.1, h.2.1, bdrewN h.2.2 d⟩
/-- .. and the packet in block m. -/
def RY (w W : World) (m : Nat) (l : List UInt8) (k : Nat) (bad : Bool) (e : Ip) : Prop := RZ w W l k bad ∧ IqAt W m e ∧ w.heap.size + 1 < m ∧ e.ok
theorem RY.grown {w W W' : World} {m : Nat} {l l' : List UInt8} {k k' : Nat} {bad bad' : Bool} {e : Ip} (h : RY w W m l k bad e) (hr : RdAt W' (w.heap.size + 1) l' k' bad') (hg : W.grownBy W' (some (w.heap.size + 1))) : RY w W' m l' k' bad' e :=
  ⟨h.1.grown hr hg, ObjAt.grown h.2.1 hg (by have := h.2.2.1; simp; omega), h.2.2.1, h.2.2.2⟩
theorem RY.made {w W : World} {l : List UInt8} {k : Nat} {bad : Bool} (h : RZ w W l k bad) (e : Ip) (ho : e.ok) : RY w (aggW (W.alloc (.cells #[.int .i64 0, .int .i64 0, .int .i64 0, .int .i64 0, .bool false, .int .u8 0, .int .u8 0, .int .u8 0, .int .u8 0, .int .u8 0, .int .u8 0, .int .u8 0, .int .u8 0, .int .u8 0, .int .u8 0, .int .u8 0, .int .u8 0, .int .u8 0, .int .u8 0, .int .u8 0, .int .u8 0, .bool false, .int .u8 0, .int .u8 0, .int .u8 0, .int .u8 0, .int .u8 0, .int .u8 0, .int .u8 0, .int .u8 0, .int .u8 0, .int .u8 0, .int .u8 0, .int .u8 0, .int .u8 0, .int .u8 0, .int .u8 0, .int .u8 0, .bool false, .string ⟨#[]⟩] 26)) W.heap.size (ipC e)) W.heap.size l k bad e := by
  obtain ⟨h1, h2, h3⟩ := h
  have l1 := ObjAt.lt h1
  have l2 := ObjAt.lt h2
  exact ⟨⟨aggW_other (ObjAt.alloc h1 _) _ (by omega), aggW_other (h2.alloc _) _ (by omega), aggW_below (h3.alloc (by omega) _) (by omega) _⟩, aggW_obj (ObjAt.made W (ipC zeroI).toArray 26) (by rw [ipC_length ho, ipC_length zeroI_ok]) (ipC_one e), by omega, ho⟩
theorem RY.free {w W : World} {m : Nat} {l : List UInt8} {k : Nat} {bad : Bool} {e : Ip} (h : RY w W m l k bad e) : free? W w.heap.size 0 40 = true := obj_free h.1.2.1 (by simp [ipC_length zeroI_ok])
theorem RY.done {w W : World} {m : Nat} {l : List UInt8} {k : Nat} {bad : Bool} {e : Ip} (h : RY w W m l k bad e) (e' : Ip) (ho : e'.ok) : row? (aggW W w.heap.size (ipC e')) w.heap.size 0 40 = some (ipC e') ∧ Below w.heap.size w (aggW W w.heap.size (ipC e')) :=
  ⟨aggW_row h.free (ipC_length ho), aggW_below h.1.2.2 (Nat.le_refl _) _⟩
theorem RY.body {w W : World} {m : Nat} {l : List UInt8} {k : Nat} {bad : Bool} {e : Ip} (h : RY w W m l k bad e) (B : List UInt8) : RY w (W.setCell ⟨m, 39, none⟩ (.string (Str B))) m l k bad ⟨e.tos, e.id, e.ttl, e.pro, e.f6, e.fr, e.t6, e.to, e.al, B⟩ := by
  obtain ⟨⟨h1, h2, h3⟩, h4, h5, h6⟩ := h
  refine ⟨⟨ObjAt.other h1 ⟨m, 39, none⟩ _ (by show w.heap.size + 1 ≠ m; omega), ObjAt.other h2 ⟨m, 39, none⟩ _ (by show w.heap.size ≠ m; omega), h3.setCell (p := ⟨m, 39, none⟩) (by show w.heap.size ≤ m; omega) _⟩, ?_, h5, h6⟩
  have := ObjAt.set h4 39 (.string (Str B))
  rw [show (ipC e).toArray.setIfInBounds 39 (.string (Str B)) = (ipC ⟨e.tos, e.id, e.ttl, e.pro, e.f6, e.fr, e.t6, e.to, e.al, B⟩).toArray by apply Array.ext'; rw [Array.toList_setIfInBounds]; exact set_end e h6 1 _] at this
  exact this
theorem bld_six (a b c d : Int) (v x : Bool) (f t : List UInt8) (hf : f.length = 16) (ht : t.length = 16) (w0 : World) : (aggBuild 26 #[(0, .int .i64 a), (1, .int .i64 b), (2, .int .i64 c), (3, .int .i64 d), (4, .agg (addrC v f).toArray), (5, .agg (addrC x t).toArray)]).run Try.prog w0 = .ok (.agg (ipC ⟨a, b, c, d, v, f, x, t, false, []⟩).toArray) w0 := by
  obtain ⟨a0, a1, a2, a3, a4, a5, a6, a7, a8, a9, aa, ab, ac, ad, ae, af, rfl⟩ := list16 hf
  obtain ⟨b0, b1, b2, b3, b4, b5, b6, b7, b8, b9, ba, bb, bc, bd, be, bf, rfl⟩ := list16 ht
  exact bld_run _ _ _ (by kernel_rfl) _

/-- What the header comes to, by what was read of it. -/
def coreH (bad : Bool) (n1 n2 : Nat) (l : List UInt8) (f : Ip) : Ip × Int := if bad then (zeroI, 3) else if n1 / 268435456 ≠ 6 then (zeroI, 5) else if l.length < n2 then (zeroI, 3) else (f, 0)
set_option maxRecDepth 100000 in
set_option maxHeartbeats 4000000 in
theorem hdr_core (w : World) (s l1 l2 l3 l4 l5 l6 l7 x5 x6 : List UInt8) (k1 k2 k3 k4 k5 k6 k7 n1 n2 n3 n4 q1 q2 : Nat) (b1 b2 b3 b4 b5 b6 b7 v5 v6 : Bool)
    (H1 : Hid (∀ W, RdAt W (w.heap.size + 1) s 0 false → Calls Try.prog 30 #[.pointer (some ⟨w.heap.size + 1, 0, none⟩), .int .i64 4] W fun x w' => x = .returned (.int .u64 n1) ∧ RdAt w' (w.heap.size + 1) l1 k1 b1 ∧ W.grownBy w' (some (w.heap.size + 1))))
    (H2 : Hid (∀ W, RdAt W (w.heap.size + 1) l1 k1 b1 → Calls Try.prog 30 #[.pointer (some ⟨w.heap.size + 1, 0, none⟩), .int .i64 2] W fun x w' => x = .returned (.int .u64 n2) ∧ RdAt w' (w.heap.size + 1) l2 k2 b2 ∧ W.grownBy w' (some (w.heap.size + 1))))
    (HB1 : Hid (∀ W, Calls Try.prog 34 #[.int .u64 n1, .int .i64 20, .int .i64 8] W fun x w' => x = .returned (.int .u64 q1) ∧ ∃ d, w' = W.drewN d))
    (HB2 : Hid (∀ W, Calls Try.prog 34 #[.int .u64 n1, .int .i64 0, .int .i64 20] W fun x w' => x = .returned (.int .u64 q2) ∧ ∃ d, w' = W.drewN d))
    (H3 : Hid (∀ W, RdAt W (w.heap.size + 1) l2 k2 b2 → Calls Try.prog 30 #[.pointer (some ⟨w.heap.size + 1, 0, none⟩), .int .i64 1] W fun x w' => x = .returned (.int .u64 n3) ∧ RdAt w' (w.heap.size + 1) l3 k3 b3 ∧ W.grownBy w' (some (w.heap.size + 1))))
    (H4 : Hid (∀ W, RdAt W (w.heap.size + 1) l3 k3 b3 → Calls Try.prog 30 #[.pointer (some ⟨w.heap.size + 1, 0, none⟩), .int .i64 1] W fun x w' => x = .returned (.int .u64 n4) ∧ RdAt w' (w.heap.size + 1) l4 k4 b4 ∧ W.grownBy w' (some (w.heap.size + 1))))
    (H5 : Hid (∀ W, RdAt W (w.heap.size + 1) l4 k4 b4 → Calls Try.prog 35 #[.pointer (some ⟨w.heap.size + 1, 0, none⟩)] W fun x w' => x = .returned (.agg (addrC v5 x5).toArray) ∧ RdAt w' (w.heap.size + 1) l5 k5 b5 ∧ W.grownBy w' (some (w.heap.size + 1))))
    (H6 : Hid (∀ W, RdAt W (w.heap.size + 1) l5 k5 b5 → Calls Try.prog 35 #[.pointer (some ⟨w.heap.size + 1, 0, none⟩)] W fun x w' => x = .returned (.agg (addrC v6 x6).toArray) ∧ RdAt w' (w.heap.size + 1) l6 k6 b6 ∧ W.grownBy w' (some (w.heap.size + 1))))
    (H7 : Hid (∀ W, RdAt W (w.heap.size + 1) l6 k6 false → n2 ≤ l6.length → Calls Try.prog 31 #[.pointer (some ⟨w.heap.size + 1, 0, none⟩), .int .i64 n2] W fun x w' => x = .returned (.string (Str (l6.take n2))) ∧ RdAt w' (w.heap.size + 1) l7 k7 b7 ∧ W.grownBy w' (some (w.heap.size + 1))))
    (hn1 : n1 < 4294967296) (hn2 : n2 < 65536) (hn3 : n3 < 256) (hn4 : n4 < 256) (hq1 : q1 < 256) (hq2 : q2 < 1048576) (hx5 : x5.length = 16) (hx6 : x6.length = 16) (hl6 : l6.length ≤ 1000000)
    (R : Ip × Int) (hR : R = coreH b6 n1 n2 l6 ⟨q1, q2, n3, n4, v5, x5, v6, x6, false, l6.take n2⟩) :
    Calls Try.prog 22 #[.string (Str s)] w fun x w' => x = .returned (.tuple #[.agg (ipC R.1).toArray, .int .i64 R.2]) ∧ Below w.heap.size w w' := by
  have y2 : IntKind.i64.wrap (n2 : Int) = (n2 : Int) := i64_small n2 (by omega)
  have y3 : IntKind.i64.wrap (n3 : Int) = (n3 : Int) := i64_small n3 (by omega)
  have y4 : IntKind.i64.wrap (n4 : Int) = (n4 : Int) := i64_small n4 (by omega)
  have yq1 : IntKind.i64.wrap (q1 : Int) = (q1 : Int) := i64_small q1 (by omega)
  have yq2 : IntKind.i64.wrap (q2 : Int) = (q2 : Int) := i64_small q2 (by omega)
  have hbz := bld_zeroQ
  have hfok := fok_ip zeroI_ok
  have hbs := bld_six q1 q2 n3 n4 v5 v6 x5 x6 hx5 hx6
  obtain ⟨E, hE⟩ : ∃ E : Ip, E = ⟨q1, q2, n3, n4, v5, x5, v6, x6, false, []⟩ := ⟨_, rfl⟩
  obtain ⟨F, hF⟩ : ∃ F : Ip, F = ⟨q1, q2, n3, n4, v5, x5, v6, x6, false, l6.take n2⟩ := ⟨_, rfl⟩
  rw [← hE] at hbs
  rw [← hF] at hR
  have oE : E.ok := by rw [hE]; exact ⟨hx5, hx6⟩
  have oF : F.ok := by rw [hF]; exact ⟨hx5, hx6⟩
  have HEF := Lib.hid (show (⟨E.tos, E.id, E.ttl, E.pro, E.f6, E.fr, E.t6, E.to, E.al, l6.take n2⟩ : Ip) = F by rw [hE, hF])
  have hfokE := fok_ip oE
  have hfokF := fok_ip oF
  have HOE := Lib.hid oE
  have HOF := Lib.hid oF
  have HRR := Lib.hid hR
  have H0 := Lib.hid (RZ.start w s)
  have hfm : ∀ W : World, free? (W.alloc (.cells #[.int .i64 0, .int .i64 0, .int .i64 0, .int .i64 0, .bool false, .int .u8 0, .int .u8 0, .int .u8 0, .int .u8 0, .int .u8 0, .int .u8 0, .int .u8 0, .int .u8 0, .int .u8 0, .int .u8 0, .int .u8 0, .int .u8 0, .int .u8 0, .int .u8 0, .int .u8 0, .int .u8 0, .bool false, .int .u8 0, .int .u8 0, .int .u8 0, .int .u8 0, .int .u8 0, .int .u8 0, .int .u8 0, .int .u8 0, .int .u8 0, .int .u8 0, .int .u8 0, .int .u8 0, .int .u8 0, .int .u8 0, .int .u8 0, .int .u8 0, .bool false, .string ⟨#[]⟩] 26)) W.heap.size 0 40 = true := fun W => free_made W _ _ 40 (by simp)
  clear hR hE hF oE oF hn3 hn4 hq1 hq2 hx5 hx6
  go_enter Try.func22, Try.ntmps22
  go_upto_region 2 with (go_at_call 28; refine (new_any (Str s) _).mono ?_; rintro x w1 ⟨rfl, rfl⟩)
  generalize (w.alloc (.cells #[.int .i64 0, .int .i64 0, .int .i64 0, .int .i64 0, .bool false, .int .u8 0, .int .u8 0, .int .u8 0, .int .u8 0, .int .u8 0, .int .u8 0, .int .u8 0, .int .u8 0, .int .u8 0, .int .u8 0, .int .u8 0, .int .u8 0, .int .u8 0, .int .u8 0, .int .u8 0, .int .u8 0, .bool false, .int .u8 0, .int .u8 0, .int .u8 0, .int .u8 0, .int .u8 0, .int .u8 0, .int .u8 0, .int .u8 0, .int .u8 0, .int .u8 0, .int .u8 0, .int .u8 0, .int .u8 0, .int .u8 0, .int .u8 0, .int .u8 0, .bool false, .string ⟨#[]⟩] 26)).alloc (.cells #[.string (Str s), .int .i64 0, .bool false] 62) = W at H0 ⊢
  have hr0 := H0.out.1
  go_upto_region 4 with (first
    | (go_at_call 30; (with_reducible refine (H1.out _ hr0).mono ?_); rintro x w1 ⟨rfl, hr1, hg1⟩; have G1 := Lib.hid (H0.out.grown hr1 hg1); clear hg1)
    | (go_at_call 30; (with_reducible refine (H2.out _ hr1).mono ?_); rintro x w2 ⟨rfl, hr2, hg2⟩; have G2 := Lib.hid (G1.out.grown hr2 hg2); clear hg2)
    | (go_at_call 34; (with_reducible refine (HB1.out _).mono ?_); rintro x w3 ⟨rfl, d1, rfl⟩; have G3 := Lib.hid (G2.out.drewN d1))
    | (go_at_call 34; (with_reducible refine (HB2.out _).mono ?_); rintro x w4 ⟨rfl, d2, rfl⟩; have G4 := Lib.hid (G2.out.drewN (d1 + d2)); have hr4 := G4.out.1)
    | (go_at_call 30; (with_reducible refine (H3.out _ hr4).mono ?_); rintro x w5 ⟨rfl, hr5, hg5⟩; have G5 := Lib.hid (G4.out.grown hr5 hg5); clear hg5)
    | (go_at_call 30; (with_reducible refine (H4.out _ hr5).mono ?_); rintro x w6 ⟨rfl, hr6, hg6⟩; have G6 := Lib.hid (G5.out.grown hr6 hg6); clear hg6)
    | (go_at_call 35; (with_reducible refine (H5.out _ hr6).mono ?_); rintro x w7 ⟨rfl, hr7, hg7⟩; have G7 := Lib.hid (G6.out.grown hr7 hg7); clear hg7)
    | (go_at_call 35; (with_reducible refine (H6.out _ hr7).mono ?_); rintro x w8 ⟨rfl, hr8, hg8⟩; have G8 := Lib.hid (G7.out.grown hr8 hg8); clear hg8))
  have GM := Lib.hid (RY.made G8.out E HOE.out)
  generalize aggW (w8.alloc (.cells #[.int .i64 0, .int .i64 0, .int .i64 0, .int .i64 0, .bool false, .int .u8 0, .int .u8 0, .int .u8 0, .int .u8 0, .int .u8 0, .int .u8 0, .int .u8 0, .int .u8 0, .int .u8 0, .int .u8 0, .int .u8 0, .int .u8 0, .int .u8 0, .int .u8 0, .int .u8 0, .int .u8 0, .bool false, .int .u8 0, .int .u8 0, .int .u8 0, .int .u8 0, .int .u8 0, .int .u8 0, .int .u8 0, .int .u8 0, .int .u8 0, .int .u8 0, .int .u8 0, .int .u8 0, .int .u8 0, .int .u8 0, .int .u8 0, .int .u8 0, .bool false, .string ⟨#[]⟩] 26)) w8.heap.size _ = W9 at GM ⊢
  generalize w8.heap.size = m at GM ⊢
  clear hr0 hr1 hr2 hr4 hr5 hr6 hr7 hr8 hfm hbs y3 y4 yq1 yq2 H0 G1 G2 G3 G4 G5 G6 G7 G8
  have hr := GM.out.1.1
  have hf := GM.out.free
  cases b6 with
  | true =>
    have HR := Lib.hid (show R = (zeroI, 3) from HRR.out)
    go_upto_region 5 with (go_at_call 32; refine (bad_any _ l6 k6 true _ hr).mono ?_; rintro x w4 ⟨rfl, hw4⟩; subst hw4)
    repeat (first | go_values | go_skip | go_guarded | go_step | go_upon | go_in)
    obtain ⟨r1, r2⟩ := GM.out.done zeroI zeroI_ok
    exact bodyPost_ret (results_cell2 Try.results22 rfl (ld_some r1 (ldr_iq _ _ _))) rfl ⟨by rw [HR.out]; rfl, r2⟩
  | false =>
    have y1 : IntKind.u64.wrap ((n1 : Int) / 268435456) = (n1 : Int) / 268435456 := by simp only [IntKind.wrap_u64]; omega
    by_cases h1 : n1 / 268435456 = 6
    · have hq : ((n1 : Int) / 268435456 != 6) = false := by simp; omega
      by_cases h2 : l6.length < n2
      · have HR := Lib.hid (show R = (zeroI, 3) by rw [HRR.out]; unfold coreH; rw [if_neg (by simp), if_neg (by omega), if_pos h2])
        have hd : decide ((l6.length : Int) < (n2 : Int)) = true := by simp; omega
        have hd' : decide (l6.length < n2) = true := decide_eq_true h2
        clear h1 h2
        go_upto_region 9 with (first
          | (go_at_call 32; refine (bad_any _ l6 k6 false _ hr).mono ?_; rintro x w4 ⟨rfl, hw4⟩; subst hw4)
          | (go_at_call 29; refine (left_any _ l6 k6 false _ hr).mono ?_; rintro x w5 ⟨rfl, hw5⟩; subst hw5))
        repeat (first | go_values | go_skip | go_guarded | go_step | go_upon | go_in)
        obtain ⟨r1, r2⟩ := GM.out.done zeroI zeroI_ok
        exact bodyPost_ret (results_cell2 Try.results22 rfl (ld_some r1 (ldr_iq _ _ _))) rfl ⟨by rw [HR.out]; rfl, r2⟩
      · have HR := Lib.hid (show R = (F, 0) by rw [HRR.out]; unfold coreH; rw [if_neg (by simp), if_neg (by omega), if_neg h2])
        have hd : decide ((l6.length : Int) < (n2 : Int)) = false := by simp; omega
        have hd' : decide (l6.length < n2) = false := decide_eq_false h2
        have H2' := Lib.hid h2
        clear h1 h2
        have hrr := hr
        go_upto_region 10 with (first
          | (go_at_call 32; refine (bad_any _ l6 k6 false _ hr).mono ?_; rintro x w4 ⟨rfl, hw4⟩; subst hw4)
          | (go_at_call 29; refine (left_any _ l6 k6 false _ hr).mono ?_; rintro x w5 ⟨rfl, hw5⟩; subst hw5))
        have HCL : Hid (∀ W, RY w W m l7 k7 b7 E → W.cell? ⟨m, 39, none⟩ = some (.string (Str E.bd)) ∧ W.frozen? ⟨m, 39, none⟩ = false) := Lib.hid fun W h => ⟨h.2.1.bd HOE.out, h.2.1.frz 39⟩
        go_upto_region 11 with (go_at_call 31; refine (H7.out _ hr (by have := H2'.out; omega)).mono ?_; rintro x w6 ⟨rfl, hr6, hg6⟩; have GN := Lib.hid (GM.out.grown hr6 hg6); clear hg6; obtain ⟨c39, z39⟩ := HCL.out _ GN.out)
        have h8 := GN.out.body (l6.take n2)
        rw [HEF.out] at h8
        have H8 := Lib.hid h8
        clear h8 c39 z39 hf
        generalize World.setCell _ ⟨m, 39, none⟩ _ = W10 at H8 ⊢
        have hf := H8.out.free
        have hrm := H8.out.2.1.row HOF.out
        repeat (first | go_values | go_skip | go_guarded | go_step | go_upon | go_in)
        obtain ⟨q1, q2⟩ := H8.out.done F HOF.out
        exact bodyPost_ret (results_cell2 Try.results22 rfl (ld_some q1 (ldr_iq _ _ _))) rfl ⟨by rw [HR.out]; rfl, q2⟩
    · have hq : ((n1 : Int) / 268435456 != 6) = true := by simp; omega
      have HR := Lib.hid (show R = (zeroI, 5) by rw [HRR.out]; unfold coreH; rw [if_neg (by simp), if_pos h1])
      clear h1
      go_upto_region 7 with (go_at_call 32; refine (bad_any _ l6 k6 false _ hr).mono ?_; rintro x w4 ⟨rfl, hw4⟩; subst hw4)
      repeat (first | go_values | go_skip | go_guarded | go_step | go_upon | go_in)
      obtain ⟨r1, r2⟩ := GM.out.done zeroI zeroI_ok
      exact bodyPost_ret (results_cell2 Try.results22 rfl (ld_some r1 (ldr_iq _ _ _))) rfl ⟨by rw [HR.out]; rfl, r2⟩
end Go.Proofs.Ytkmnnkklbgnfpaa
