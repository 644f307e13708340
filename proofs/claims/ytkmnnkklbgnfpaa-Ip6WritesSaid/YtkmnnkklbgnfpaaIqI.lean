/-
  The contract of ip6.readOptions.
-/
import Derived.Test.YtkmnnkklbgnfpaaIqH
import Derived.Test.YtkmnnkklbgnfpaaIqU
namespace Go.Proofs.Ytkmnnkklbgnfpaa
open Go.RowKit
set_option linter.unusedVariables false
attribute [local go_sem ↓] bld_iq ld_iq st_iq ld_addr st_addr
attribute [local go_sem] ldr_iq str_iq ldr_addr str_addr

/-- The packet that came in, the result's block, the reader. -/
def PQ (w W : World) (e : Ip) (l : List UInt8) (k : Nat) (bad : Bool) : Prop :=
  RdAt W (w.heap.size + 2) l k bad ∧ IqAt W w.heap.size e ∧ ObjAt W (w.heap.size + 1) (ipC zeroI).toArray 26 ∧ Below w.heap.size w W ∧ e.ok
theorem PQ.start (w : World) (e : Ip) (ho : e.ok) : PQ w (((w.alloc (.cells (ipC e).toArray 26)).alloc (.cells #[.int .i64 0, .int .i64 0, .int .i64 0, .int .i64 0, .bool false, .int .u8 0, .int .u8 0, .int .u8 0, .int .u8 0, .int .u8 0, .int .u8 0, .int .u8 0, .int .u8 0, .int .u8 0, .int .u8 0, .int .u8 0, .int .u8 0, .int .u8 0, .int .u8 0, .int .u8 0, .int .u8 0, .bool false, .int .u8 0, .int .u8 0, .int .u8 0, .int .u8 0, .int .u8 0, .int .u8 0, .int .u8 0, .int .u8 0, .int .u8 0, .int .u8 0, .int .u8 0, .int .u8 0, .int .u8 0, .int .u8 0, .int .u8 0, .int .u8 0, .bool false, .string ⟨#[]⟩] 26)).alloc (.cells #[.string (Str e.bd), .int .i64 0, .bool false] 62)) e e.bd 0 false := by
  have s1 : (w.alloc (.cells (ipC e).toArray 26)).heap.size = w.heap.size + 1 := by simp
  have s2 : ((w.alloc (.cells (ipC e).toArray 26)).alloc (.cells #[.int .i64 0, .int .i64 0, .int .i64 0, .int .i64 0, .bool false, .int .u8 0, .int .u8 0, .int .u8 0, .int .u8 0, .int .u8 0, .int .u8 0, .int .u8 0, .int .u8 0, .int .u8 0, .int .u8 0, .int .u8 0, .int .u8 0, .int .u8 0, .int .u8 0, .int .u8 0, .int .u8 0, .bool false, .int .u8 0, .int .u8 0, .int .u8 0, .int .u8 0, .int .u8 0, .int .u8 0, .int .u8 0, .int .u8 0, .int .u8 0, .int .u8 0, .int .u8 0, .int .u8 0, .int .u8 0, .int .u8 0, .int .u8 0, .int .u8 0, .bool false, .string ⟨#[]⟩] 26)).heap.size = w.heap.size + 2 := by simp
  refine ⟨?_, ObjAt.alloc (ObjAt.alloc (IqAt.made w e) _) _, ?_, (((Below.refl _ _).alloc (Nat.le_refl _) _).alloc (by simp) _).alloc (by simp; omega) _, ho⟩
  · have := ObjAt.made ((w.alloc (.cells (ipC e).toArray 26)).alloc (.cells #[.int .i64 0, .int .i64 0, .int .i64 0, .int .i64 0, .bool false, .int .u8 0, .int .u8 0, .int .u8 0, .int .u8 0, .int .u8 0, .int .u8 0, .int .u8 0, .int .u8 0, .int .u8 0, .int .u8 0, .int .u8 0, .int .u8 0, .int .u8 0, .int .u8 0, .int .u8 0, .int .u8 0, .bool false, .int .u8 0, .int .u8 0, .int .u8 0, .int .u8 0, .int .u8 0, .int .u8 0, .int .u8 0, .int .u8 0, .int .u8 0, .int .u8 0, .int .u8 0, .int .u8 0, .int .u8 0, .int .u8 0, .int .u8 0, .int .u8 0, .bool false, .string ⟨#[]⟩] 26)) #[.string (Str e.bd), .int .i64 0, .bool false] 62
    rw [s2] at this
    exact this
  · have := (ObjAt.made (w.alloc (.cells (ipC e).toArray 26)) #[.int .i64 0, .int .i64 0, .int .i64 0, .int .i64 0, .bool false, .int .u8 0, .int .u8 0, .int .u8 0, .int .u8 0, .int .u8 0, .int .u8 0, .int .u8 0, .int .u8 0, .int .u8 0, .int .u8 0, .int .u8 0, .int .u8 0, .int .u8 0, .int .u8 0, .int .u8 0, .int .u8 0, .bool false, .int .u8 0, .int .u8 0, .int .u8 0, .int .u8 0, .int .u8 0, .int .u8 0, .int .u8 0, .int .u8 0, .int .u8 0, .int .u8 0, .int .u8 0, .int .u8 0, .int .u8 0, .int .u8 0, .int .u8 0, .int .u8 0, .bool false, .string ⟨#[]⟩] 26).alloc (.cells #[.string (Str e.bd), .int .i64 0, .bool false] 62)
    rw [s1] at this
    exact this
theorem PQ.grown {w W W' : World} {e : Ip} {l l' : List UInt8} {k k' : Nat} {bad bad' : Bool} (h : PQ w W e l k bad) (hr : RdAt W' (w.heap.size + 2) l' k' bad') (hg : W.grownBy W' (some (w.heap.size + 2))) : PQ w W' e l' k' bad' :=
  ⟨hr, ObjAt.grown h.2.1 hg (by simp), ObjAt.grown h.2.2.1 hg (by simp), bgrown h.2.2.2.1 hg (fun n hn => by simp at hn; omega), h.2.2.2.2⟩
theorem PQ.below {w W W' : World} {e : Ip} {l : List UInt8} {k : Nat} {bad : Bool} (h : PQ w W e l k bad) (hb : Below W.heap.size W W') : PQ w W' e l k bad :=
  ⟨ObjAt.below h.1 hb (ObjAt.lt h.1), ObjAt.below h.2.1 hb (ObjAt.lt h.2.1), ObjAt.below h.2.2.1 hb (ObjAt.lt h.2.2.1), bstep h.2.2.2.1 hb, h.2.2.2.2⟩
theorem PQ.free {w W : World} {e : Ip} {l : List UInt8} {k : Nat} {bad : Bool} (h : PQ w W e l k bad) : free? W (w.heap.size + 1) 0 40 = true := obj_free h.2.2.1 (by simp [ipC_length zeroI_ok])
theorem PQ.done {w W : World} {e : Ip} {l : List UInt8} {k : Nat} {bad : Bool} (h : PQ w W e l k bad) (f : Ip) (ho : f.ok) : row? (aggW W (w.heap.size + 1) (ipC f)) (w.heap.size + 1) 0 40 = some (ipC f) ∧ Below w.heap.size w (aggW W (w.heap.size + 1) (ipC f)) :=
  ⟨aggW_row h.free (ipC_length ho), aggW_below h.2.2.2.1 (by omega) _⟩
theorem PQ.set {w W : World} {e e' : Ip} {l : List UInt8} {k : Nat} {bad : Bool} (h : PQ w W e l k bad) (j : Nat) (v : Value) (he : (ipC e).set j v = ipC e') (ho : e'.ok) : PQ w (W.setCell ⟨w.heap.size, j, none⟩ v) e' l k bad := by
  obtain ⟨h1, h2, h3, h4, h5⟩ := h
  refine ⟨ObjAt.other h1 ⟨w.heap.size, j, none⟩ v (by show w.heap.size + 2 ≠ w.heap.size; omega), ?_, ObjAt.other h3 ⟨w.heap.size, j, none⟩ v (by show w.heap.size + 1 ≠ w.heap.size; omega), h4.setCell (p := ⟨w.heap.size, j, none⟩) (Nat.le_refl _) v, ho⟩
  have := ObjAt.set h2 j v
  rw [show (ipC e).toArray.setIfInBounds j v = (ipC e').toArray by apply Array.ext'; rw [Array.toList_setIfInBounds]; exact he] at this
  exact this
theorem PQ.three {w W : World} {e : Ip} {l : List UInt8} {k : Nat} {bad : Bool} (h : PQ w W e l k bad) (x : Int) (a : Bool) (B : List UInt8) :
    PQ w (((W.setCell ⟨w.heap.size, 2, none⟩ (.int .i64 x)).setCell ⟨w.heap.size, 38, none⟩ (.bool a)).setCell ⟨w.heap.size, 39, none⟩ (.string (Str B))) ⟨e.tos, e.id, x, e.pro, e.f6, e.fr, e.t6, e.to, a, B⟩ l k bad := by
  have ho := h.2.2.2.2
  have h1 : PQ w (W.setCell ⟨w.heap.size, 2, none⟩ (.int .i64 x)) ⟨e.tos, e.id, x, e.pro, e.f6, e.fr, e.t6, e.to, e.al, e.bd⟩ l k bad := h.set 2 _ rfl ho
  have h2 := h1.set (e' := ⟨e.tos, e.id, x, e.pro, e.f6, e.fr, e.t6, e.to, a, e.bd⟩) 38 (.bool a) (set_end ⟨e.tos, e.id, x, e.pro, e.f6, e.fr, e.t6, e.to, e.al, e.bd⟩ ho 0 _) ho
  exact h2.set (e' := ⟨e.tos, e.id, x, e.pro, e.f6, e.fr, e.t6, e.to, a, B⟩) 39 (.string (Str B)) (set_end ⟨e.tos, e.id, x, e.pro, e.f6, e.fr, e.t6, e.to, a, e.bd⟩ ho 1 _) ho

/-- What the options come to, by what was read of them. -/
def coreO (bad : Bool) (x0 : Nat) (o1 : Bool) (o2 : Int) (e f : Ip) : Ip × Int := if bad then (zeroI, 2) else if o2 ≠ 0 then (zeroI, o2) else if x0 = 0 then (zeroI, 2) else (f, 0)

set_option maxRecDepth 100000 in
set_option maxHeartbeats 4000000 in
theorem ropts_core (w : World) (e : Ip) (ho : e.ok) (l1 l2 l3 t : List UInt8) (k1 k2 k3 x0 x1 : Nat) (b1 b2 b3 o1 : Bool) (o2 : Int)
    (H1 : Hid (∀ W, RdAt W (w.heap.size + 2) e.bd 0 false → Calls Try.prog 30 #[.pointer (some ⟨w.heap.size + 2, 0, none⟩), .int .i64 1] W fun x w' => x = .returned (.int .u64 x0) ∧ RdAt w' (w.heap.size + 2) l1 k1 b1 ∧ W.grownBy w' (some (w.heap.size + 2))))
    (H2 : Hid (∀ W, RdAt W (w.heap.size + 2) l1 k1 b1 → Calls Try.prog 30 #[.pointer (some ⟨w.heap.size + 2, 0, none⟩), .int .i64 1] W fun x w' => x = .returned (.int .u64 x1) ∧ RdAt w' (w.heap.size + 2) l2 k2 b2 ∧ W.grownBy w' (some (w.heap.size + 2))))
    (H3 : Hid (∀ W, RdAt W (w.heap.size + 2) l2 k2 b2 → Calls Try.prog 31 #[.pointer (some ⟨w.heap.size + 2, 0, none⟩), .int .i64 (8 * ((x1 : Int) + 1) - 2)] W fun x w' => x = .returned (.string (Str t)) ∧ RdAt w' (w.heap.size + 2) l3 k3 b3 ∧ W.grownBy w' (some (w.heap.size + 2))))
    (H4 : Hid (∀ W, Calls Try.prog 16 #[.string (Str t)] W fun x w' => x = .returned (.tuple #[.bool o1, .int .i64 o2]) ∧ Below W.heap.size W w'))
    (hx0 : x0 < 256) (hx1 : x1 < 256) (f : Ip) (hf : f = ⟨e.tos, e.id, x0, e.pro, e.f6, e.fr, e.t6, e.to, o1, l3⟩) (R : Ip × Int) (hR : R = coreO b3 x0 o1 o2 e f) :
    Calls Try.prog 23 #[.agg (ipC e).toArray] w fun x w' => x = .returned (.tuple #[.agg (ipC R.1).toArray, .int .i64 R.2]) ∧ Below w.heap.size w w' := by
  have w0 : IntKind.i64.wrap (x0 : Int) = (x0 : Int) := i64_small x0 (by omega)
  have w1' : IntKind.i64.wrap (x1 : Int) = (x1 : Int) := i64_small x1 (by omega)
  have w2' : IntKind.i64.wrap ((x1 : Int) + 1) = (x1 : Int) + 1 := by simp only [IntKind.wrap_i64]; omega
  have w3' : IntKind.i64.wrap (8 * ((x1 : Int) + 1)) = 8 * ((x1 : Int) + 1) := by simp only [IntKind.wrap_i64]; omega
  have w4' : IntKind.i64.wrap (8 * ((x1 : Int) + 1) - 2) = 8 * ((x1 : Int) + 1) - 2 := by simp only [IntKind.wrap_i64]; omega
  have hbz := bld_zeroQ
  have hfok := fok_ip zeroI_ok
  have hof : f.ok := by rw [hf]; exact ho
  have hfokf := fok_ip hof
  have HOF := Lib.hid hof
  have HF := Lib.hid hf
  have H0 := Lib.hid (PQ.start w e ho)
  have HBD : Hid (∀ W, IqAt W w.heap.size e → W.cell? ⟨w.heap.size, 39, none⟩ = some (.string (Str e.bd))) := Lib.hid fun W h => h.bd ho
  have HRR := Lib.hid hR
  have HCL : Hid (∀ W, PQ w W e l3 k3 false → W.cell? ⟨w.heap.size, 2, none⟩ = some (.int .i64 e.ttl) ∧ W.cell? ⟨w.heap.size, 38, none⟩ = some (.bool e.al) ∧ W.cell? ⟨w.heap.size, 39, none⟩ = some (.string (Str e.bd)) ∧ W.frozen? ⟨w.heap.size, 2, none⟩ = false ∧ W.frozen? ⟨w.heap.size, 38, none⟩ = false ∧ W.frozen? ⟨w.heap.size, 39, none⟩ = false) := Lib.hid fun W h => ⟨h.2.1.ttl, h.2.1.al ho, h.2.1.bd ho, h.2.1.frz 2, h.2.1.frz 38, h.2.1.frz 39⟩
  have hsm := IqAt.made w e
  have c0 : ((w.alloc (.cells (ipC e).toArray 26)).alloc (.cells #[.int .i64 0, .int .i64 0, .int .i64 0, .int .i64 0, .bool false, .int .u8 0, .int .u8 0, .int .u8 0, .int .u8 0, .int .u8 0, .int .u8 0, .int .u8 0, .int .u8 0, .int .u8 0, .int .u8 0, .int .u8 0, .int .u8 0, .int .u8 0, .int .u8 0, .int .u8 0, .int .u8 0, .bool false, .int .u8 0, .int .u8 0, .int .u8 0, .int .u8 0, .int .u8 0, .int .u8 0, .int .u8 0, .int .u8 0, .int .u8 0, .int .u8 0, .int .u8 0, .int .u8 0, .int .u8 0, .int .u8 0, .int .u8 0, .int .u8 0, .bool false, .string ⟨#[]⟩] 26)).cell? ⟨w.heap.size, 39, none⟩ = some (.string (Str e.bd)) := IqAt.bd (p := e) (ObjAt.alloc hsm _) ho
  clear hR hf hof ho hx0 hx1 hsm
  go_enter Try.func23, Try.ntmps23
  go_upto_region 2 with (go_at_call 28; refine (new_any (Str e.bd) _).mono ?_; rintro x w1 ⟨rfl, rfl⟩)
  generalize ((w.alloc (.cells (ipC e).toArray 26)).alloc (.cells #[.int .i64 0, .int .i64 0, .int .i64 0, .int .i64 0, .bool false, .int .u8 0, .int .u8 0, .int .u8 0, .int .u8 0, .int .u8 0, .int .u8 0, .int .u8 0, .int .u8 0, .int .u8 0, .int .u8 0, .int .u8 0, .int .u8 0, .int .u8 0, .int .u8 0, .int .u8 0, .int .u8 0, .bool false, .int .u8 0, .int .u8 0, .int .u8 0, .int .u8 0, .int .u8 0, .int .u8 0, .int .u8 0, .int .u8 0, .int .u8 0, .int .u8 0, .int .u8 0, .int .u8 0, .int .u8 0, .int .u8 0, .int .u8 0, .int .u8 0, .bool false, .string ⟨#[]⟩] 26)).alloc (.cells #[.string (Str e.bd), .int .i64 0, .bool false] 62) = W at H0 ⊢
  clear c0
  have hr0 := H0.out.1
  go_upto_region 4 with (first
    | (go_at_call 30; (with_reducible refine (H1.out _ hr0).mono ?_); rintro x w1 ⟨rfl, hr1, hg1⟩; have G1 := Lib.hid (H0.out.grown hr1 hg1); clear hg1)
    | (go_at_call 30; (with_reducible refine (H2.out _ hr1).mono ?_); rintro x w2 ⟨rfl, hr2, hg2⟩; have G2 := Lib.hid (G1.out.grown hr2 hg2); clear hg2)
    | (go_at_call 31; (with_reducible refine (H3.out _ hr2).mono ?_); rintro x w3 ⟨rfl, hr3, hg3⟩; have G3 := Lib.hid (G2.out.grown hr3 hg3); clear hg3))
  clear hr0 hr1 hr2 G1 G2 H0
  have hfr := G3.out.free
  cases b3 with
  | true =>
    have HR := Lib.hid (show R = (zeroI, 2) from HRR.out)
    go_upto_region 5 with (go_at_call 32; refine (bad_any _ l3 k3 true _ hr3).mono ?_; rintro x w4 ⟨rfl, hw4⟩; subst hw4)
    repeat (first | go_values | go_skip | go_guarded | go_step | go_upon | go_in)
    obtain ⟨q1, q2⟩ := G3.out.done zeroI zeroI_ok
    exact bodyPost_ret (results_cell2 Try.results23 rfl (ld_some q1 (ldr_iq _ _ _))) rfl ⟨by rw [HR.out]; rfl, q2⟩
  | false =>
    go_upto_region 7 with (first
      | (go_at_call 32; refine (bad_any _ l3 k3 false _ hr3).mono ?_; rintro x w4 ⟨rfl, hw4⟩; subst hw4)
      | (go_at_call 16; (with_reducible refine (H4.out _).mono ?_); rintro x w5 ⟨rfl, hb5⟩; have G5 := Lib.hid (G3.out.below hb5); clear hb5))
    clear hfr
    have hfr := G5.out.free
    have hr5 := G5.out.1
    by_cases h2 : o2 = 0
    · have hq2 : (o2 != 0) = false := by simpa using h2
      by_cases h3 : x0 = 0
      · have hq3 : ((x0 : Int) == 0) = true := by simp; omega
        have HR := Lib.hid (show R = (zeroI, 2) by rw [HRR.out]; unfold coreO; rw [if_neg (by simp), if_neg (by simp [h2]), if_pos h3])
        clear h2 h3
        go_upto_region 10 with (fail)
        repeat (first | go_values | go_skip | go_guarded | go_step | go_upon | go_in)
        obtain ⟨q1, q2⟩ := G5.out.done zeroI zeroI_ok
        exact bodyPost_ret (results_cell2 Try.results23 rfl (ld_some q1 (ldr_iq _ _ _))) rfl ⟨by rw [HR.out]; rfl, q2⟩
      · have hq3 : ((x0 : Int) == 0) = false := by simp; omega
        have HR := Lib.hid (show R = (f, 0) by rw [HRR.out]; unfold coreO; rw [if_neg (by simp), if_neg (by simp [h2]), if_neg h3])
        clear h2 h3
        obtain ⟨c2, c38, c39, z2, z38, z39⟩ := HCL.out _ G5.out
        go_upto_region 12 with (go_at_call 36; refine (rest_any _ l3 k3 false _ hr5).mono ?_; rintro x w6 ⟨rfl, hw6⟩; subst hw6)
        have h8 := G5.out.three (x0 : Int) o1 l3
        rw [← HF.out] at h8
        have H8 := Lib.hid h8
        clear h8
        generalize ((w6.setCell ⟨w.heap.size, 2, none⟩ (.int .i64 (x0 : Int))).setCell ⟨w.heap.size, 38, none⟩ (.bool o1)).setCell ⟨w.heap.size, 39, none⟩ (.string (Str l3)) = W9 at H8 ⊢
        clear c2 c38 c39 z2 z38 z39 hfr
        have hfr := H8.out.free
        have hrm := H8.out.2.1.row HOF.out
        repeat (first | go_values | go_skip | go_guarded | go_step | go_upon | go_in)
        obtain ⟨q1, q2⟩ := H8.out.done f HOF.out
        exact bodyPost_ret (results_cell2 Try.results23 rfl (ld_some q1 (ldr_iq _ _ _))) rfl ⟨by rw [HR.out]; rfl, q2⟩
    · have hq2 : (o2 != 0) = true := by simpa using h2
      have HR := Lib.hid (show R = (zeroI, o2) by rw [HRR.out]; unfold coreO; rw [if_neg (by simp), if_pos h2])
      clear h2
      go_upto_region 8 with (fail)
      repeat (first | go_values | go_skip | go_guarded | go_step | go_upon | go_in)
      obtain ⟨q1, q2⟩ := G5.out.done zeroI zeroI_ok
      exact bodyPost_ret (results_cell2 Try.results23 rfl (ld_some q1 (ldr_iq _ _ _))) rfl ⟨by rw [HR.out]; rfl, q2⟩
end Go.Proofs.Ytkmnnkklbgnfpaa
